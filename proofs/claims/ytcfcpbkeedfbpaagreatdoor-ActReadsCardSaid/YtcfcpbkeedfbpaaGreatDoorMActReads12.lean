/- ActText, EvalAwake, ActAwake, ExprBetween, ExprMid, joined. -/
import Derived.Test.YtcfcpbkeedfbpaaGreatDoorMActReads06
import Derived.Test.YtcfcpbkeedfbpaaGreatDoorMActReads10
import Derived.Test.YtcfcpbkeedfbpaaGreatDoorMActReads03
import Derived.Test.YtcfcpbkeedfbpaaGreatDoorMActReads11
import Derived.Test.YtcfcpbkeedfbpaaGreatDoorShelf
import Derived.Test.YtcfcpbkeedfbpaaGreatDoorMActReads04
import Derived.Laws.Tables
import Derived.Test.YtcfcpbkeedfbpaaGreatDoorMActReads07
import Derived.Deep.RegionHeld3
namespace Go.Proofs.YtcfcpbkeedfbpaaGreatDoor
open Go.RowKit TermSpec EvalSpec ActSpec NamesSpec ExprSpec
set_option maxRecDepth 100000

set_option maxHeartbeats 1000000 in
theorem atext_any (t : Ta) (h : t.Ok) (A : Option Addr) (n c : Nat) (w : World) (ht : Tms w (.slice A n c) t.ac.x) (hsm : Small t.ac.x) (hg : SignsIn w) :
    Calls Tryz.prog 27 #[.agg #[.string t.s, .bool t.any, .slice A n c]] w (RetS w (txA t)) := by
  have hsz := name_size h.1
  rcases ha : t.any with _ | _
  · obtain ⟨hgx, hk⟩ := h.2 ha
    have h40 := ta_few h ha
    have htz := tx_size hgx
    have hx : t.ac.x = flat t.e := by simp [Ta.ac, ha]
    rw [hx] at ht hsm
    obtain ⟨A', n', c', heq, hn, hnc⟩ := ht.shape
    cases heq
    have HP : Hid (∀ W, Below w.heap.size w W → Calls Tryz.prog 47 #[.slice A n c] W (RetPut W (tx t.e) 0)) := Lib.hid (fun W hW => put_ok A n c (flat t.e) W (ht.keep hW) hn hsm (hg.keep hW) rfl hgx hk h40)
    have HT : Hid (txA t = t.s ++ ⟨#[32, 58, 61, 32]⟩ ++ tx t.e) := Lib.hid (by unfold txA; rw [if_neg (by simp [ha])])
    obtain ⟨x, hxx⟩ : ∃ x, x = tx t.e := ⟨_, rfl⟩
    rw [← hxx] at HP HT htz
    have h5 : t.s.size ≤ 12 := hsz
    have h6 : x.size ≤ 1200 := by omega
    obtain ⟨s, hs⟩ : ∃ s, s = t.s := ⟨_, rfl⟩
    rw [← hs] at HT h5 ⊢
    have h7 : ¬ 9223372036854775807 < s.size + 4 := by omega
    have h8 : ¬ 9223372036854775807 < s.size + 4 + x.size := by omega
    clear hx ht hn hnc hgx hk h40 htz hxx hs hsz ha hg hsm
    go_enter Tryz.func27, Tryz.ntmps27
    go_wp2_with (go_at_call 47; (with_reducible refine (HP.out _ (KitC.below_one _ _)).mono ?_))
    rintro e2 w2 ⟨rfl, hb2⟩
    obtain ⟨B2, hbb, _⟩ := KitC.one_block hb2
    have HB2 := Lib.hid hbb
    obtain ⟨c0, c1, c2⟩ := cells_3 B2
    clear hb2 hbb B2
    go_wp2_with fail
    go_ret
    exact ⟨by rw [HT.out]; rfl, HB2.out⟩
  · have HT : Hid (txA t = ⟨#[97, 110, 121, 32]⟩ ++ t.s) := Lib.hid (by unfold txA; rw [if_pos ha])
    obtain ⟨s, hs⟩ : ∃ s, s = t.s := ⟨_, rfl⟩
    rw [← hs] at HT hsz ⊢
    have h7 : ¬ 9223372036854775807 < 4 + s.size := by omega
    clear ht hs ha hg h hsm
    go_enter Tryz.func27, Tryz.ntmps27
    go_wp2_with fail
    go_ret
    exact ⟨by rw [HT.out]; rfl, KitC.below_one _ _⟩
def APutRel (W w1 : World) (ts : List Ta) (p i : Value) (wr : World) : Prop := ∃ k : Nat, k ≤ ts.length ∧ i = .int .i64 k ∧ RowS w1 wr p ((ts.take k).map txA) ∧ Below W.heap.size W w1
theorem txs_next {ts : List Ta} {k : Nat} {t : Ta} (h : ts[k]? = some t) : (ts.take (k + 1)).map txA = (ts.take k).map txA ++ [txA t] := by rw [take_next h, List.map_append]; rfl
/-- The call of Join over a row of the call's own. -/
theorem join_row {W w : World} {p : Value} {xs : List ByteArray} (h : RowS W w p xs) (h8 : xs.length ≤ 8) (hl : (Lib.join (xs.map (·.data.toList)) [44, 32]).length ≤ 140737488355328) :
    ∃ A n c, p = .slice A n c ∧ Calls Tryz.prog 28 #[.slice A n c, .string ⟨#[44, 32]⟩] w (RetS w ⟨(Lib.join (xs.map (·.data.toList)) [44, 32]).toArray⟩) := by
  obtain ⟨A, n, c, rfl, hn, hc, hA⟩ := h.read.strs
  rcases Nat.eq_zero_or_pos n with h0 | h0
  · subst h0
    obtain rfl : xs = [] := List.eq_nil_of_length_eq_zero hn
    exact ⟨A, 0, c, rfl, (Tryz.strings_Join_none A c _ w).mono fun e w' ⟨he, hw⟩ => ⟨he, by rw [hw]; exact Below.refl _ _⟩⟩
  · obtain ⟨b, off, rfl, hb, hcell⟩ := hA h0
    subst hn
    exact ⟨_, _, c, rfl, Tryz.strings_Join b off c xs ⟨#[44, 32]⟩ w hcell hb (by omega) hc hl⟩
set_option maxHeartbeats 4000000 in
theorem aput_any (A : Option Addr) (n c : Nat) (l : List Ac) (hs : ∀ a ∈ l, SmallA a) (hl : l.length ≤ 9223372036854775807) (w : World) (h : Acs w (.slice A n c) l) (hg : SignsIn w) :
    (chkA l ≠ 0 → Calls Tryz.prog 8 #[.slice A n c] w (RetPut w ⟨#[]⟩ (chkA l))) ∧
    (∀ ts : List Ta, ts.map Ta.ac = l → (∀ t ∈ ts, t.Ok) → chkA l = 0 → Calls Tryz.prog 8 #[.slice A n c] w (RetPut w (putB ts) 0)) := by
  have HT := Lib.hid h
  have HN := Lib.hid h.len.1
  have hcap := h.len.2
  have HCK := Lib.hid (check_acts A n c l hs hl w h)
  have HG := Lib.hid hg
  have HS := Lib.hid hs
  refine ⟨fun hk => ?_, fun ts hts hok hk => ?_⟩
  · obtain ⟨k, hkk⟩ : ∃ k, k = chkA l := ⟨_, rfl⟩
    rw [← hkk] at HCK hk ⊢
    have e1 : (k != 0) = true := by simpa using hk
    clear h hs hl hg hkk hk
    go_enter Tryz.func8, Tryz.ntmps8
    go_wp2_with (go_at_call 10; (with_reducible refine HCK.out.mono ?_))
    rintro e w1 ⟨rfl, hb1⟩
    have HB := Lib.hid hb1
    clear hb1
    go_wp2_with fail
    go_ret2
    exact ⟨rfl, HB.out⟩
  · have h8 : ts.length ≤ 8 := by
      have h1 : l.length = ts.length := by rw [← hts, List.length_map]
      have h2 : l.length ≤ 8 := by
        unfold chkA at hk
        split at hk
        · cases hk
        · omega
      omega
    have HLN : Hid (l.length = ts.length) := Lib.hid (by rw [← hts, List.length_map])
    rw [hk] at HCK
    obtain ⟨i0, hi, hz0, hz1, hz2⟩ := info_parts inf_str
    have HI := Lib.hid (And.intro hi (And.intro hz0 (And.intro hz1 hz2)))
    have HOK := Lib.hid hok
    have HTS := Lib.hid hts
    obtain ⟨P, hP⟩ : ∃ P, P = putB ts := ⟨_, rfl⟩
    rw [← hP]
    have HP := Lib.hid hP
    have HJL : Hid ((Lib.join ((ts.map txA).map (·.data.toList)) [44, 32]).length ≤ 140737488355328 ∧ (⟨(Lib.join ((ts.map txA).map (·.data.toList)) [44, 32]).toArray⟩ : ByteArray) = putB ts) := Lib.hid (by
      have h1 := putB_size hok
      have h2 : (putB ts).size = (putT ts).length := by simp [putB, ByteArray.size]
      have h3 : Lib.join ((ts.map txA).map (·.data.toList)) [44, 32] = putT ts := by unfold putT; rw [List.map_map]; rfl
      rw [h3]
      exact ⟨by omega, rfl⟩)
    clear h hs hl hg hk hts hok hi hz0 hz1 hz2 hP
    go_enter Tryz.func8, Tryz.ntmps8
    go_wp2_with (go_at_call 10; (with_reducible refine HCK.out.mono ?_))
    rintro e w1 ⟨rfl, hb1⟩
    have HB1 := Lib.hid hb1
    clear hb1
    go_wp2_with fail
    go_loopw [5, 7, 15] (fun p _ i wr => APutRel w w1 ts p i wr) (fun _ _ i _ => ts.length - (intOf i).toNat)
    case atStart => exact ⟨0, Nat.zero_le _, rfl, RowS.nil _ _ (Below.refl _ _), HB1.out⟩
    case round =>
      obtain ⟨k, hkt, rfl, hrow, _⟩ := hrel
      have HR0 := Lib.hid hrow
      have HWB := Lib.hid (below_two' HB1.out hrow.2)
      clear hrow
      by_cases hlt : k < n
      · have hkI : (k : Int) < n := by omega
        have hk8 : (k : Int) ≤ 8 := by omega
        obtain ⟨t, ht⟩ : ∃ t, ts[k]? = some t := get_some (by have := HN.out; have := HLN.out; omega)
        have hla : l[k]? = some t.ac := by rw [← HTS.out, List.getElem?_map, ht]; rfl
        obtain ⟨b, off, tA, tn, tc, rfl, hb, htm, d0, d1, d2⟩ := (HT.out.keep HWB.out).at_ hla
        obtain ⟨tA', tn', tc', heq, htn, htc⟩ := htm.shape
        cases heq
        have HC : Hid (∀ V, Below wr.heap.size wr V → Calls Tryz.prog 27 #[.agg #[.string t.s, .bool t.any, .slice tA tn tc]] V (RetS V (txA t))) := Lib.hid (fun V hV => atext_any t (HOK.out t (List.mem_of_getElem? ht)) tA tn tc V (htm.keep hV) (HS.out _ (List.mem_of_getElem? hla)).2.1 (HG.out.keep (below_two' HWB.out hV)))
        have HX := Lib.hid (txs_next ht)
        have hd0 : wr.cell? ⟨b, off + k * 3, none⟩ = some (.string t.s) := d0
        have hd1 : wr.cell? ⟨b, off + k * 3 + 1, none⟩ = some (.bool t.any) := d1
        obtain ⟨x, hx⟩ : ∃ x, x = txA t := ⟨_, rfl⟩
        rw [← hx] at HC HX
        have HL1 : Hid (((ts.take k).map txA).length + (strV [x]).length ≤ maxLen) := Lib.hid (by rw [List.length_map, List.length_take]; simp [maxLen]; omega)
        have HL2 : Hid ((((ts.take k).map txA).length + (strV [x]).length) * 16 ≤ 140737488355328) := Lib.hid (by rw [List.length_map, List.length_take]; simp; omega)
        clear ht hla htm htn hx d0 d1
        obtain ⟨ta, tany, te⟩ := t
        simp only at hd0 hd1 HC
        go_wp2_with (go_at_call 27; (with_reducible refine (HC.out _ (KitC.below_one _ _)).mono ?_))
        rintro e w2 ⟨rfl, hb2⟩
        have HR1 := Lib.hid (HR0.out.keep (below_two' (KitC.below_one _ _) hb2))
        have HSZ : Hid (w1.heap.size ≤ w2.heap.size) := Lib.hid HR1.out.2.size
        have HRA := Lib.hid HR1.out.1
        clear hb2
        go_wp2_with (at_builtin; refine wpList_append_rd _ rfl (.tmp 19) (.tmp 22) _ rfl w1.heap.size 9 i0 (.string ByteArray.empty) 16 Tryz.underlying52 HI.out.1 HI.out.2.1 HI.out.2.2.1 HI.out.2.2.2 rfl _ _ _ rfl (own_keep HRA.out (KitC.below_one _ _)) _ (strV [x]) rfl (lit_here rfl rfl rfl) (strV_one _) HL1.out HL2.out ?_ ?_; (have := HSZ.out; simp; omega); intro p2 w3 hrow3 hg3 _; have HR2 := Lib.hid (RowS.add HR1.out hrow3 hg3); clear hrow3 hg3)
        go_roundw
        case rel => first | exact ⟨k + 1, by have := HN.out; have := HLN.out; omega, by go_num, by rw [HX.out]; exact HR2.out, HB1.out⟩ | ((repeat apply Exists.intro); exact ⟨⟨k + 1, by have := HN.out; have := HLN.out; omega, by go_num, by rw [HX.out]; exact HR2.out, HB1.out⟩, rfl⟩)
        case measure => have := HN.out; have := HLN.out; simp [intOf]; omega
      · have hkI : ¬ (k : Int) < n := by omega
        have hall : ts.take k = ts := List.take_of_length_le (by have := HN.out; have := HLN.out; omega)
        have hr := HR0.out
        rw [hall] at hr
        obtain ⟨jA, jn, jc, rfl, hj⟩ := join_row hr (by rw [List.length_map]; exact h8) HJL.out.1
        rw [HJL.out.2, ← HP.out] at hj
        have HJ := Lib.hid hj
        clear hall hr hj
        go_wp2_with (go_at_call 28; (with_reducible refine HJ.out.mono ?_))
        rintro e w2 ⟨rfl, hb2⟩
        have HB2 := Lib.hid (below_two' HWB.out hb2)
        clear hb2
        go_wp2_with fail
        go_ret2
        exact ⟨rfl, HB2.out⟩
end Go.Proofs.YtcfcpbkeedfbpaaGreatDoor

namespace Go.Proofs.YtcfcpbkeedfbpaaGreatDoor
open Go.RowKit TermSpec EvalSpec NamesSpec
set_option maxRecDepth 100000

abbrev exP (k : Nat) : EP := ⟨some ⟨k, 0, none⟩, 1, 1, none, 0, 0⟩
theorem tb_one (a : Int) (w : World) : (Instr.build 68 #[(0, .int .i64 a)]).run Tryz.prog w = .ok (.agg #[.int .i64 a, .int .i64 0, .string ⟨#[]⟩]) w := run_build w 68 _ _ (by kernel_rfl)
theorem tb_name (a : Int) (s : ByteArray) (w : World) : (Instr.build 68 #[(0, .int .i64 a), (2, .string s)]).run Tryz.prog w = .ok (.agg #[.int .i64 a, .int .i64 0, .string s]) w := run_build w 68 _ _ (by kernel_rfl)
theorem tb_num (a b : Int) (w : World) : (Instr.build 68 #[(0, .int .i64 a), (1, .int .i64 b)]).run Tryz.prog w = .ok (.agg #[.int .i64 a, .int .i64 b, .string ⟨#[]⟩]) w := run_build w 68 _ _ (by kernel_rfl)
end Go.Proofs.YtcfcpbkeedfbpaaGreatDoor

namespace Go.Proofs.YtcfcpbkeedfbpaaGreatDoor
open Go.RowKit Go.Sort TermSpec EvalSpec ActSpec NamesSpec ExprSpec
set_option maxRecDepth 100000

def awT : List Tm := [⟨4, 0, ⟨#[]⟩⟩, ⟨2, 0, ⟨#[120]⟩⟩, ⟨1, 1, ⟨#[]⟩⟩]
def awL : List Ac := [⟨⟨#[120]⟩, true, []⟩, ⟨⟨#[120]⟩, false, awT⟩]
def awE : Ev := ⟨[⟨⟨#[120]⟩, 0, 1, 0⟩], 0, 0, 0, 0, []⟩
def awTs : List Ta := [⟨⟨#[120]⟩, true, .leaf ⟨9, 0, ⟨#[]⟩⟩⟩, ⟨⟨#[120]⟩, false, .bin 4 (.leaf ⟨2, 0, ⟨#[120]⟩⟩) (.leaf ⟨1, 1, ⟨#[]⟩⟩)⟩]
theorem aw_run : runE awE awL = (0, [⟨1, 0, 0, 0⟩]) := by kernel_rfl
theorem aw_run1 : runE awE (awL.take 1) = (0, [⟨0, 0, 0, 0⟩, ⟨1, 0, 0, 0⟩]) := by kernel_rfl
theorem aw_chk : chkA awL = 0 := by kernel_rfl
theorem aw_ts : awTs.map Ta.ac = awL := rfl
theorem aw_text : putB awTs = ⟨#[97, 110, 121, 32, 120, 44, 32, 120, 32, 58, 61, 32, 120, 32, 43, 32, 49]⟩ := by kernel_rfl
theorem aw_ok : ∀ t ∈ awTs, t.Ok := by
  intro t ht
  simp only [awTs, List.mem_cons, List.not_mem_nil, or_false] at ht
  rcases ht with rfl | rfl
  · exact ⟨by kernel_rfl, fun h => by cases h⟩
  · exact ⟨by kernel_rfl, fun _ => ⟨⟨by kernel_rfl, ⟨by kernel_rfl, by kernel_rfl⟩, ⟨by kernel_rfl, by kernel_rfl⟩⟩, by kernel_rfl⟩⟩
theorem aw_small : ∀ a ∈ awL, SmallA a := by
  intro a ha
  simp only [awL, List.mem_cons, List.not_mem_nil, or_false] at ha
  rcases ha with rfl | rfl
  · exact ⟨by decide, fun t ht => by simp at ht, by decide⟩
  · refine ⟨by decide, fun t ht => ?_, by decide⟩
    simp only [awT, List.mem_cons, List.not_mem_nil, or_false] at ht
    rcases ht with rfl | rfl | rfl <;> decide
theorem aw_small1 : ∀ a ∈ awL.take 1, SmallA a := fun a ha => aw_small a (List.mem_of_mem_take ha)
theorem aw_fit : ∀ v ∈ awE.vars, VFit v := by
  intro v hv
  simp only [awE, List.mem_cons, List.not_mem_nil, or_false] at hv
  subst hv
  exact ⟨by decide, by decide, by decide, by decide⟩
abbrev awTO : Obj := .cells #[.int .i64 4, .int .i64 0, .string ⟨#[]⟩, .int .i64 2, .int .i64 0, .string ⟨#[120]⟩, .int .i64 1, .int .i64 1, .string ⟨#[]⟩] 68
abbrev awAO (k : Nat) : Obj := .cells #[.string ⟨#[120]⟩, .bool true, .slice none 0 0, .string ⟨#[120]⟩, .bool false, .slice (some ⟨k, 0, none⟩) 3 3] 66
abbrev awVO : Obj := .cells #[.string ⟨#[120]⟩, .int .i64 0, .int .i64 1, .int .i64 0] 62
abbrev awEO (k : Nat) : Obj := .cells #[.slice (some ⟨k, 0, none⟩) 1 1, .int .i64 0, .int .i64 0, .int .i64 0, .int .i64 0, .slice none 0 0] 54
abbrev awEV (k : Nat) : Value := .agg #[.slice (some ⟨k, 0, none⟩) 1 1, .int .i64 0, .int .i64 0, .int .i64 0, .int .i64 0, .slice none 0 0]
theorem act_any (s : ByteArray) (w : World) : (Instr.build 66 #[(0, .string s), (1, .bool true)]).run Tryz.prog w = .ok (.agg #[.string s, .bool true, .slice none 0 0]) w := run_build w 66 _ _ (by kernel_rfl)
theorem act_set (s : ByteArray) (A : Option Addr) (n c : Nat) (w : World) : (Instr.build 66 #[(0, .string s), (2, .slice A n c)]).run Tryz.prog w = .ok (.agg #[.string s, .bool false, .slice A n c]) w := run_build w 66 _ _ (by kernel_rfl)
theorem vb_hi (s : ByteArray) (h : Int) (w : World) : (Instr.build 62 #[(0, .string s), (2, .int .i64 h)]).run Tryz.prog w = .ok (.agg #[.string s, .int .i64 0, .int .i64 h, .int .i64 0]) w := run_build w 62 _ _ (by kernel_rfl)
theorem eb_vars (A : Option Addr) (n c : Nat) (w : World) : (Instr.build 54 #[(0, .slice A n c)]).run Tryz.prog w = .ok (.agg #[.slice A n c, .int .i64 0, .int .i64 0, .int .i64 0, .int .i64 0, .slice none 0 0]) w := run_build w 54 _ _ (by kernel_rfl)
/-- A row whose block is known whole. -/
theorem rdk_block {k n c b : Nat} {w : World} {cs : Array Value} {T : TypeId} {fr : Nat × Nat} {xs : List Value} (h : w.heap[b]? = some (.cells cs T fr)) (hx : cs.toList = xs) (hl : xs.length = n * k) (hc : n ≤ c) : Rdk k w (.slice (some ⟨b, 0, none⟩) n c) n xs := by
  refine ⟨_, c, rfl, hc, hl, fun _ => ⟨b, 0, rfl, (Array.getElem?_eq_some_iff.1 h).1, fun j u hj => ?_⟩⟩
  rw [← hx, Array.getElem?_toList] at hj
  simp [World.cell?, h, hj]
theorem acs_upto {W0 : World} {A : Option Addr} {n c k : Nat} {l : List Ac} (h : Acs W0 (.slice A n c) l) (hk : k ≤ n) (h0 : 0 < k) :
    (∀ W, (Instr.slice 22 (.slice A n c) none (some (.int .i64 (k : Int))) none).run Tryz.prog W = .ok (.slice A k c) W) ∧ Acs W0 (.slice A k c) (l.take k) := by
  obtain ⟨ps, hm, ⟨A', c', heq, hc, hl, hA⟩, hx⟩ := h
  cases heq
  obtain ⟨b, off, rfl, hb, hcell⟩ := hA (by omega)
  have hln : (l.take k).length = k := by rw [List.length_take]; omega
  have hpl : ps.length = l.length := by rw [← hm, List.length_map]
  refine ⟨fun W => ?_, ps.take k, by rw [← hm, List.map_take], ⟨_, c, by rw [hln], by omega, by rw [acsV_length, hln, List.length_take]; congr 1; omega, fun _ => ⟨b, off, rfl, hb, fun j u hj => hcell j u ?_⟩⟩, fun p hp => hx p (List.mem_of_mem_take hp)⟩
  · rw [run_slice_h (P := Tryz.prog) W 22 _ l.length c (by rw [show Tryz.prog.elem 22 = 66 by kernel_rfl]; exact Tryz.underlying22) .i64 (k : Int) (by omega) (by omega), show Tryz.prog.elem 22 = 66 by kernel_rfl]
    simp [sliced, Result.andThen, Addr.add]
  · have e : acsV ps = acsV (ps.take k) ++ acsV (ps.drop k) := by rw [acsV_append, List.take_append_drop]
    rw [e, List.getElem?_append_left (List.getElem?_eq_some_iff.1 hj).1]
    exact hj
set_option maxHeartbeats 4000000 in
theorem aawake_any (w : World) (hg : SignsIn w) : Calls Tryz.prog 7 #[] w (RetB w true) := by
  have b1 := tb_one
  have b2 := tb_name
  have b3 := tb_num
  have b4 := act_any
  have b5 := act_set
  have b6 := vb_hi
  have b7 := eb_vars
  obtain ⟨W4, hW4⟩ : ∃ W4, (((w.alloc awTO).alloc (awAO w.heap.size)).alloc awVO).alloc (awEO (w.heap.size + 2)) = W4 := ⟨_, rfl⟩
  have hb4 : Below w.heap.size w W4 := by rw [← hW4]; exact below_two' (KitC.below_pair _ _ _) (KitC.below_pair _ _ _)
  have hk0 : W4.heap[w.heap.size]? = some awTO := by
    rw [← hW4]
    have h1 := heap_alloc_new w awTO
    have h2 := KitC.block_on h1 (KitC.below_one _ (awAO w.heap.size))
    exact KitC.block_on h2 (KitC.below_pair _ _ _)
  have hk1 : W4.heap[w.heap.size + 1]? = some (awAO w.heap.size) := by
    rw [← hW4]
    have h1 := heap_alloc_new (w.alloc awTO) (awAO w.heap.size)
    rw [World.size_alloc] at h1
    exact KitC.block_on h1 (KitC.below_pair _ _ _)
  have hk2 : W4.heap[w.heap.size + 2]? = some awVO := by
    rw [← hW4]
    have h1 := heap_alloc_new ((w.alloc awTO).alloc (awAO w.heap.size)) awVO
    rw [World.size_alloc, World.size_alloc] at h1
    exact KitC.block_on h1 (KitC.below_one _ _)
  have hk3 : W4.heap[w.heap.size + 3]? = some (awEO (w.heap.size + 2)) := by
    rw [← hW4]
    have h1 := heap_alloc_new (((w.alloc awTO).alloc (awAO w.heap.size)).alloc awVO) (awEO (w.heap.size + 2))
    rwa [World.size_alloc, World.size_alloc, World.size_alloc] at h1
  have htm : Tms W4 (.slice (some ⟨w.heap.size, 0, none⟩) 3 3) awT := ⟨3, rfl, rdk_block hk0 rfl rfl (Nat.le_refl _)⟩
  have hac : Acs W4 (.slice (some ⟨w.heap.size + 1, 0, none⟩) 2 2) awL := by
    refine ⟨[⟨⟨⟨#[120]⟩, true, []⟩, none, 0, 0⟩, ⟨⟨⟨#[120]⟩, false, awT⟩, some ⟨w.heap.size, 0, none⟩, 3, 3⟩], rfl, rdk_block hk1 rfl rfl (Nat.le_refl _), fun p hp => ?_⟩
    simp only [List.mem_cons, List.not_mem_nil, or_false] at hp
    rcases hp with rfl | rfl
    · exact ⟨0, rfl, Rdk.nil 3 _⟩
    · exact htm
  have hen : EnvIn W4 (exP (w.heap.size + 2)) awE := ⟨⟨rfl, rdk_block hk2 rfl rfl (Nat.le_refl _)⟩, Rd.nil _, by decide, by decide⟩
  obtain ⟨hup, hac1⟩ := acs_upto (k := 1) hac (by omega) (by omega)
  have HUP := Lib.hid hup
  have HR1 : Hid (∀ W, Below W4.heap.size W4 W → Calls Tryz.prog 22 #[.slice (some ⟨w.heap.size + 1, 0, none⟩) 2 2, awEV (w.heap.size + 2)] W (RetVE W (0, [⟨1, 0, 0, 0⟩]))) := Lib.hid (fun W hW => by
    have := run_any (exP (w.heap.size + 2)) awE (some ⟨w.heap.size + 1, 0, none⟩) 2 2 awL W (hen.keep hW) aw_fit aw_small (by decide) (hac.keep hW)
    rw [aw_run] at this
    exact this)
  have HR2 : Hid (∀ W, Below W4.heap.size W4 W → Calls Tryz.prog 22 #[.slice (some ⟨w.heap.size + 1, 0, none⟩) 1 2, awEV (w.heap.size + 2)] W (RetVE W (0, [⟨0, 0, 0, 0⟩, ⟨1, 0, 0, 0⟩]))) := Lib.hid (fun W hW => by
    have := run_any (exP (w.heap.size + 2)) awE (some ⟨w.heap.size + 1, 0, none⟩) 1 2 (awL.take 1) W (hen.keep hW) aw_fit aw_small1 (by decide) (hac1.keep hW)
    rw [aw_run1] at this
    exact this)
  obtain ⟨P, hP⟩ : ∃ P : ByteArray, P = ⟨#[97, 110, 121, 32, 120, 44, 32, 120, 32, 58, 61, 32, 120, 32, 43, 32, 49]⟩ := ⟨_, rfl⟩
  have HPU : Hid (∀ W, Below W4.heap.size W4 W → Calls Tryz.prog 8 #[.slice (some ⟨w.heap.size + 1, 0, none⟩) 2 2] W (RetPut W P 0)) := Lib.hid (fun W hW => by
    have := (aput_any (some ⟨w.heap.size + 1, 0, none⟩) 2 2 awL aw_small (by decide) W (hac.keep hW) (hg.keep (below_two' hb4 hW))).2 awTs aw_ts aw_ok aw_chk
    rw [aw_text, ← hP] at this
    exact this)
  have HB4 := Lib.hid hb4
  have HK3 := Lib.hid hk3
  have HW4 := Lib.hid hW4
  have HP := Lib.hid hP
  have hsz : w.heap.size + 3 < W4.heap.size := (Array.getElem?_eq_some_iff.1 hk3).1
  clear hW4 hb4 hk0 hk1 hk2 hk3 htm hac hen hup hac1 hP hg
  go_enter Tryz.func7, Tryz.ntmps7
  go_wp2_with (rw [HW4.out]; go_at_call 22; (with_reducible refine (HR1.out _ (Below.refl _ _)).mono ?_))
  rintro e w5 ⟨v5, rfl, hv5, hb5⟩
  obtain ⟨A5, n5, c5, rfl, hn5, hc5⟩ := hv5.shape
  obtain rfl : n5 = 1 := hn5
  have HB5 := Lib.hid hb5
  have HV5 := Lib.hid hv5
  obtain ⟨z0, z1, z2, z3, z4, z5⟩ := cells_6 (KitC.block_on HK3.out hb5)
  have hup := HUP.out
  clear hv5 hb5
  go_wp2_with fail
  go_region_held3 (fun w' => w'.cell? ⟨w.heap.size + 3, 0, none⟩ = some (.slice (some ⟨w.heap.size + 2, 0, none⟩) 1 1) ∧ w'.cell? ⟨w.heap.size + 3, 1, none⟩ = some (.int .i64 0) ∧ w'.cell? ⟨w.heap.size + 3, 2, none⟩ = some (.int .i64 0) ∧ w'.cell? ⟨w.heap.size + 3, 3, none⟩ = some (.int .i64 0) ∧ w'.cell? ⟨w.heap.size + 3, 4, none⟩ = some (.int .i64 0) ∧ w'.cell? ⟨w.heap.size + 3, 5, none⟩ = some (.slice none 0 0)) (go_keep)
    ((go_at_call 22; refine (HR2.out _ (HB5.out.drew)).mono ?_; rintro e w6 ⟨v6, rfl, hv6, hb6'⟩; have hb6 := undrew hb6'; clear hb6'; have HB6 := Lib.hid (below_two' HB5.out hb6); have HV65 := Lib.hid (HV5.out.keep hb6); have HV6 := Lib.hid hv6; obtain ⟨A6, n6, c6, rfl, hn6, hc6⟩ := hv6.shape; clear hv6; obtain ⟨q0, q1, q2, q3, q4, q5⟩ := cells_6 (KitC.block_on HK3.out HB6.out); clear hb6))
  obtain rfl : n6 = 2 := hn6
  clear hup z0 z1 z2 z3 z4 z5 q0 q1 q2 q3 q4 q5
  go_wp2_with (go_at_call 8; (with_reducible refine (HPU.out _ HB6.out).mono ?_))
  rintro e w7 ⟨rfl, hb7⟩
  have HB7 := Lib.hid (below_two' HB6.out hb7)
  obtain ⟨b5, o5, rfl, _, a0, a1, a2, a3⟩ := (HV65.out.keep hb7).at_ (i := 0) rfl
  obtain ⟨b6, o6, rfl, _, d0, d1, d2, d3⟩ := (HV6.out.keep hb7).at_ (i := 0) rfl
  obtain ⟨b6', o6', heq, _, f0, f1, f2, f3⟩ := (HV6.out.keep hb7).at_ (i := 1) rfl
  cases heq
  have HL : Hid (∀ d os, Calls Tryz.prog 26 #[v4A ⟨0, 0, 0, 0⟩, v4A ⟨1, 0, 0, 0⟩] (grow (redrawn w7 d) os) fun e w'' => e = .returned (.bool true) ∧ ∃ p : Regrown, w'' = grow (redrawn w7 p.d) p.os) := Lib.hid (fun d os => Calls.regrown_of (less_any ⟨0, 0, 0, 0⟩ ⟨1, 0, 0, 0⟩ _))
  simp only [Nat.zero_mul, Nat.add_zero, Nat.one_mul] at a0 d0 d1 d2 d3 f0 f1 f2 f3
  have ra0 := cell_regrown a0
  have rd0 := cell_regrown d0
  have rd1 := cell_regrown d1
  have rd2 := cell_regrown d2
  have rd3 := cell_regrown d3
  have rf0 := cell_regrown f0
  have rf1 := cell_regrown f1
  have rf2 := cell_regrown f2
  have rf3 := cell_regrown f3
  have g1 : (P.toList == (⟨#[97, 110, 121, 32, 120, 44, 32, 120, 32, 58, 61, 32, 120, 32, 43, 32, 49]⟩ : ByteArray).toList) = true := by rw [HP.out]; simp
  clear hb7 b1 b2 b3 b4 b7 a0 a1 a2 a3 d0 d1 d2 d3 f0 f1 f2 f3
  go_wp2_with fail
  refine wp_region_quiet_below (by kernel_rfl) (by kernel_rfl) ?_
  repeat (go_big_quiet_step (exact HL.out _ _))
  refine wpQuiet_nil ?_
  intro _ hw'
  obtain ⟨⟨dq, osq⟩, hw''⟩ := hw'
  subst hw''
  simp only
  have HBZ := Lib.hid (below_two' (below_two' HB4.out HB7.out) (below_regrown w7 dq osq))
  go_wp2_with fail
  go_ret
  exact ⟨ret_bool (by rw [HP.out]; kernel_rfl), HBZ.out⟩
end Go.Proofs.YtcfcpbkeedfbpaaGreatDoor

namespace Go.Proofs.YtcfcpbkeedfbpaaGreatDoor
open Go.RowKit CurSpec TermSpec ExprSpec
set_option maxRecDepth 100000

theorem RdAt.other {w w' : World} {R B j : Nat} {v : Value} {c : Cur} {l : List Tm} (h : RdAt w R B v c l) (hb : w.grownBy w' (some j)) (hj : R < j) (hne : v.ownBlock ≠ some j) : RdAt w' R B v c l := by
  have hlt := h.lt
  have hR := h.lt'
  refine ⟨h.cur.upto hb.size (fun i hi => hb.block i (by omega) (by simp; omega)), (hb.block R hR (by simp; omega)).trans h.blk, ⟨h.own.1, ?_⟩, h.lt, h.few, h.small⟩
  rcases h.own.2 with h' | ⟨g, cap, cur, h1, h2, h3, h4⟩
  · exact .inl h'
  · refine .inr ⟨g, cap, cur, h1, h2, (hb.block g (Array.getElem?_eq_some_iff.1 h3).1 ?_).trans h3, h4⟩
    intro e
    refine hne ?_
    rw [h1]
    exact e
theorem but_five {a b : World} {B k : Nat} (h : a.grownBy b (some B)) (hk : a.heap.size ≤ k) (u0 u1 u2 u3 u4 : Value) :
    a.grownBy (((((b.setCell ⟨k, 0, none⟩ u0).setCell ⟨k, 1, none⟩ u1).setCell ⟨k, 2, none⟩ u2).setCell ⟨k, 3, none⟩ u3).setCell ⟨k, 4, none⟩ u4) (some B) :=
  but_set_new (but_set_new (but_set_new (but_set_new (but_set_new h hk _ _) hk _ _) hk _ _) hk _ _) hk _ _
theorem but_five' (b : World) (k : Nat) (u0 u1 u2 u3 u4 : Value) :
    b.grownBy (((((b.setCell ⟨k, 0, none⟩ u0).setCell ⟨k, 1, none⟩ u1).setCell ⟨k, 2, none⟩ u2).setCell ⟨k, 3, none⟩ u3).setCell ⟨k, 4, none⟩ u4) (some k) :=
  but_set (but_set (but_set (but_set (but_set (but_refl _ _) _ _) _ _) _ _) _ _) _ _

set_option maxHeartbeats 4000000 in
theorem add_at (R B : Nat) (v : Value) (c : Cur) (l : List Tm) (t : Tm) (w : World) (h : RdAt w R B v c l) (ht : t.s.size ≤ 9223372036854775807) :
    Calls Tryz.prog 157 #[.pointer (some ⟨R, 0, none⟩), .agg #[.int .i64 t.op, .int .i64 t.n, .string t.s]] w (RetRd w R B v c (ins l l.length t)) := by
  obtain ⟨A, cp, rfl⟩ := own_shape h.own
  obtain ⟨n, hn⟩ : ∃ n, n = l.length := ⟨_, rfl⟩
  obtain ⟨r0, r1⟩ := cells_2 (h.alloc (tmO t)).blk
  obtain ⟨b0, b1, b2⟩ := cells_3 (heap_alloc_new w (tmO t))
  have HINS := Lib.hid (insert_at R B _ c l n t _ (h.alloc (tmO t)).drew (by omega) ht)
  rw [← hn] at r1 HINS ⊢
  clear h hn ht
  go_enter Tryz.func157, Tryz.ntmps157
  go_wp2_with fail
  go_region_law (go_simp; go_at_call 134; (with_reducible refine HINS.out.mono ?_); rintro e x ⟨v', rfl, hR', hH'⟩; have HE := Lib.hid (And.intro hR' hH'); clear hR' hH')
  all_goals
    go_wp2_with fail
    go_end0
    exact ⟨_, rfl, HE.out.1, (Hold.of_below _ ((Below.refl _ _).alloc (Nat.le_refl _) _).drew).trans HE.out.2⟩

abbrev sgZO : Obj := .cells #[.string ⟨#[]⟩, .int .i64 0, .int .i64 0, .int .i64 0, .int .i64 0] 163
abbrev tkO (t : Tk) : Obj := .cells #[.int .i64 t.k, .string t.t, .int .i64 t.l, .int .i64 t.c] 40
def RetSg (W : World) (R B : Nat) (v : Value) (c : Cur) (l : List Tm) (o : Option Sg) (e : Ending) (w' : World) : Prop :=
  ∃ s b d, e = .returned (.tuple #[sgA s, .bool b]) ∧ (match o with | none => s = sgZ ∧ b = false ∧ d = c | some y => s = y ∧ b = true ∧ d = on c) ∧ RdAt w' R B v d l ∧ W.grownBy w' (some B)
theorem look_self {y : Sg} (h : y ∈ sgs) : ExprSpec.look y.t = some y := by
  unfold sgs at h
  simp only [List.mem_cons, List.not_mem_nil, or_false] at h
  rcases h with rfl | rfl | rfl | rfl | rfl | rfl | rfl | rfl | rfl | rfl | rfl <;> rfl
def Bt (t : ByteArray) (lev k : Int) (y : Sg) : Prop := y.t = t ∧ y.left ≤ lev ∧ k ≤ y.lev
def BtRel (W : World) (t : ByteArray) (lev k : Int) (i : Value) (wr : World) : Prop := ∃ j : Nat, j ≤ 11 ∧ i = .int .i64 j ∧ (∀ y ∈ sgs.take j, ¬ Bt t lev k y) ∧ Below W.heap.size W wr
theorem bt_next {t : ByteArray} {lev k : Int} {j : Nat} {s : Sg} (h : ∀ y ∈ sgs.take j, ¬ Bt t lev k y) (hs : sgs[j]? = some s) (hne : ¬ Bt t lev k s) : ∀ y ∈ sgs.take (j + 1), ¬ Bt t lev k y := by
  intro y hy
  rw [take_next hs, List.mem_append, List.mem_singleton] at hy
  rcases hy with hy | rfl
  · exact h y hy
  · exact hne
theorem bt_none {c : Cur} {lev k : Int} (h : ∀ y ∈ sgs.take 11, ¬ Bt (next c).t lev k y) : sgn c lev k = none := sgn_none fun s hs => by
  obtain ⟨h1, h2, h3, h4, hm⟩ := sgn_some hs
  exact h s hm ⟨(look_mem h1).2, h3, h4⟩
theorem bt_hit {c : Cur} {lev k : Int} {s : Sg} {j : Nat} (hs : sgs[j]? = some s) (hk : (next c).k = 3 ∨ (next c).k = 1) (h : Bt (next c).t lev k s) : sgn c lev k = some s := by
  refine sgn_mk ?_ hk h.2.1 h.2.2
  rw [← h.1]
  exact look_self (List.mem_of_getElem? hs)
theorem tk_block {w x : World} {p q : Obj} (hb : Below (w.alloc p).heap.size (w.alloc p) x) : (x.alloc q).heap[w.heap.size]? = some p ∧ (x.alloc q).heap[x.heap.size]? = some q ∧ w.heap.size < x.heap.size ∧ Below w.heap.size w (x.alloc q) := by
  obtain ⟨h1, h2, h3⟩ := one_block hb
  exact ⟨(heap_alloc_old _ _ h3).trans h1, heap_alloc_new _ _, h3, h2.alloc h2.size _⟩

/-- Behind the call that goes past the sign. -/
theorem bt_after {w wr x3 : World} {R B K2 : Nat} {v : Value} {c : Cur} {l : List Tm} {s : Sg} {o1 : Array Value} {o2 : Obj} {T1 : TypeId} (h : RdAt w R B v c l) (hb : Below w.heap.size w wr)
    (h3 : ((wr.alloc (sgO s)).drew).grownBy x3 (some B)) (hc : CurAt x3 B (on c)) (h2 : (wr.alloc (sgO s)).heap[K2]? = some o2) (h1 : (wr.alloc (sgO s)).heap[w.heap.size]? = some (.cells o1 T1 (0, 0)))
    (hz : w.heap.size < K2) (hz2 : K2 + 1 ≤ wr.heap.size) :
    x3.heap[w.heap.size]? = some (.cells o1 T1 (0, 0)) ∧ x3.heap[wr.heap.size]? = some (sgO s) ∧ x3.heap[K2]? = some o2 ∧ RdAt x3 R B v (on c) l ∧ v.ownBlock ≠ some w.heap.size ∧ w.grownBy x3 (some B) := by
  have hR := h.lt'
  have hB := h.lt
  have hz3 : (wr.alloc (sgO s)).drew.heap.size = wr.heap.size + 1 := World.size_alloc _ _
  have hr : RdAt (wr.alloc (sgO s)).drew R B v c l := ((h.keep hb).alloc _).drew
  refine ⟨(h3.block _ (by rw [hz3]; omega) (by simp; omega)).trans h1, (h3.block _ (by rw [hz3]; omega) (by simp; omega)).trans (heap_alloc_new _ _), (h3.block _ (by rw [hz3]; omega) (by simp; omega)).trans h2, hr.but h3 hc, (h.apart (Nat.le_refl _)).2.2, but_trans (but_drew (but_alloc (but_below hb) _)) h3⟩

set_option maxHeartbeats 8000000 in
theorem between_at (R B : Nat) (v : Value) (c : Cur) (l : List Tm) (lev k : Int) (w : World) (hs : SignsIn w) (h : RdAt w R B v c l) :
    Calls Tryz.prog 133 #[.pointer (some ⟨R, 0, none⟩), .int .i64 lev, .int .i64 k] w (RetSg w R B v c l (sgn c lev k)) := by
  have HN := Lib.hid (next_at B c _ (h.alloc (sgZO)).cur)
  obtain ⟨r0, r1⟩ := cells_2 (h.alloc (sgZO)).blk
  obtain ⟨t, ht⟩ : ∃ t, t = next c := ⟨_, rfl⟩
  rw [← ht] at HN
  have HH := Lib.hid h
  have HS := Lib.hid hs
  have HT := Lib.hid ht
  clear h hs ht
  by_cases hk : t.k = 3 ∨ t.k = 1
  · have HK := Lib.hid hk
    have hi := signs_size
    have hix := signs_index
    obtain ⟨SV, hSV⟩ : ∃ SV, SV = signsV := ⟨_, rfl⟩
    have hS := HS.out
    unfold SignsIn at hS
    rw [← hSV] at hi hix hS
    obtain ⟨T, fr, hg0⟩ := hS
    have HIX := Lib.hid hix
    have HG0 := Lib.hid hg0
    have HI := Lib.hid hi
    clear hix hSV hg0 hi HS
    have hkk : ((t.k != 3) = false) ∨ ((t.k != 3) = true ∧ (t.k != 1) = false) := by
      by_cases h3 : t.k = 3
      · exact .inl (by simpa using h3)
      · exact .inr ⟨by simpa using h3, by simpa using hk.resolve_left h3⟩
    clear hk
    rcases hkk with e3 | ⟨e3, e1⟩
    all_goals
      go_enter Tryz.func133, Tryz.ntmps133
      go_wp2_with (go_at_call 17; (with_reducible refine HN.out.mono ?_))
      rintro e x2 ⟨rfl, hb2⟩
      obtain ⟨k1, k2, hz, hB⟩ := tk_block (q := tkO t) hb2
      obtain ⟨t0, t1, t2, t3⟩ := cells_4 k2
      have hg := (hB.block _ (Array.getElem?_eq_some_iff.1 HG0.out).1).trans HG0.out
      have hi := HI.out
      have HK1 := Lib.hid k1
      have HK2 := Lib.hid k2
      have HB := Lib.hid hB
      have HZ := Lib.hid hz
      clear hb2 k1 k2 hB r0 r1
      go_wp2_with (refine wpList_load_row rfl 197 _ rfl 1 rfl T SV fr _ hg Tryz.underlying197 rfl hi ?_)
      clear hg hi t0 t1 t2 t3 hz
      go_loopw [10, 26] (fun _ i wr => BtRel (x2.alloc (tkO t)) t.t lev k i wr) (fun _ i _ => 11 - (intOf i).toNat)
      case atStart => exact ⟨0, by omega, rfl, by simp, Below.refl _ _⟩
      case round =>
        obtain ⟨j, hj, rfl, hno, hbw⟩ := hrel
        have HNO := Lib.hid hno
        have HBW := Lib.hid hbw
        have hzw := hbw.size
        rw [World.size_alloc] at hzw
        have hz := HZ.out
        have hB2 := below_two' HB.out hbw
        have kt := block_on HK2.out hbw
        have ks := block_on HK1.out hbw
        clear hno hbw
        by_cases hlt : j < 11
        · obtain ⟨s, hs⟩ : ∃ s, sgs[j]? = some s := get_some (by rw [sgs_len]; exact hlt)
          have hx := HIX.out j s hs
          have HSJ := Lib.hid hs
          have kt' := (heap_alloc_old wr (sgO s) (show x2.heap.size < wr.heap.size by omega)).trans kt
          have ks' := (heap_alloc_old wr (sgO s) (show w.heap.size < wr.heap.size by omega)).trans ks
          have kr' := ((HH.out.keep hB2).alloc (sgO s)).blk
          obtain ⟨t0, t1, t2, t3⟩ := cells_4 kt'
          obtain ⟨r0, r1⟩ := cells_2 kr'
          have HKT := Lib.hid kt'
          have HKS := Lib.hid ks'
          have HB2 := Lib.hid hB2
          have HZW := Lib.hid (And.intro hzw hz)
          clear hs kt ks kt' ks' kr' hB2 hzw hz
          by_cases h1 : s.t = t.t
          · have e4 : (s.t.toList == t.t.toList) = true := by rw [h1]; simp
            have H1 := Lib.hid h1
            clear h1
            by_cases h2 : s.left ≤ lev
            · by_cases h3 : k ≤ s.lev
              · have hit := bt_hit (c := c) (lev := lev) (k := k) HSJ.out (by rw [← HT.out]; exact HK.out) ⟨by rw [← HT.out]; exact H1.out, h2, h3⟩
                have HIT := Lib.hid hit
                have h0 := sgn_good hit
                have HTK := Lib.hid (take_at B c t.k t.t (wr.alloc (sgO s)).drew ((HH.out.keep HB2.out).alloc (sgO s)).drew.cur)
                have hib : isB c t.k t.t = true := isB_yes h0 (by rw [← HT.out]) (by rw [← HT.out])
                have htk : take c t.k t.t = on c := by unfold take; rw [if_pos hib]
                rw [hib, htk] at HTK
                have HXF : Hid (∀ x3 : World, ((wr.alloc (sgO s)).drew).grownBy x3 (some B) → CurAt x3 B (on c) → Hid (x3.heap[w.heap.size]? = some sgZO ∧ x3.heap[wr.heap.size]? = some (sgO s) ∧ x3.heap[x2.heap.size]? = some (tkO t) ∧ RdAt x3 R B v (on c) l ∧ v.ownBlock ≠ some w.heap.size ∧ w.grownBy x3 (some B))) :=
                  Lib.hid (fun x3 h3 hc => Lib.hid (bt_after HH.out HB2.out h3 hc HKT.out HKS.out HZW.out.2 HZW.out.1))
                obtain ⟨s0, s1, s2, s3, s4⟩ := cells_5 (heap_alloc_new wr (sgO s))
                clear hit h0 hib htk
                go_wp2_with fail
                go_region_law (go_simp; go_at_call 34; (with_reducible refine HTK.out.mono ?_); rintro e x3 ⟨rfl, hC3, hb3⟩; have HE := Lib.hid (And.intro hC3 hb3); clear hC3 hb3; have HX := HXF.out _ HE.out.2 HE.out.1; obtain ⟨p0, p1, p2, p3, p4⟩ := cells_5 HX.out.1; obtain ⟨f0, f1, f2, f3, f4⟩ := free_5 HX.out.1; obtain ⟨u0, u1, u2, u3, u4⟩ := cells_5 HX.out.2.1; obtain ⟨g0, g1, g2, g3⟩ := cells_4 HX.out.2.2.1; obtain ⟨y0, y1⟩ := cells_2 HX.out.2.2.2.1.blk)
                all_goals
                  go_wp2_with fail
                  obtain ⟨q0, q1, q2, q3, q4⟩ := store_five (blk_of HX.out.1 (n := 5) rfl) (.string s.t) (.int .i64 s.op) (.int .i64 s.lev) (.int .i64 s.left) (.int .i64 s.right)
                  refine bodyPost_ret (v := .tuple #[sgA s, .bool true]) (by simp [results, Tryz.results133, go_sem, q0, q1, q2, q3, q4]) rfl ?_
                  rw [HIT.out]
                  exact ⟨s, true, on c, rfl, ⟨rfl, rfl, rfl⟩, HX.out.2.2.2.1.other (but_five' _ _ _ _ _ _ _) (by have := HH.out.lt'; omega) HX.out.2.2.2.2.1, but_five HX.out.2.2.2.2.2 (Nat.le_refl _) _ _ _ _ _⟩
              · have e6 : decide (k ≤ s.lev) = false := decide_eq_false h3
                have HNX := Lib.hid (bt_next HNO.out HSJ.out (fun h => h3 h.2.2))
                go_wp2_with fail
                go_roundw
                case rel => exact ⟨j + 1, hlt, by simp, HNX.out, HBW.out.alloc HBW.out.size _⟩
                case measure => simp [intOf]; omega
            · have e5 : decide (s.left ≤ lev) = false := decide_eq_false h2
              have HNX := Lib.hid (bt_next HNO.out HSJ.out (fun h => h2 h.2.1))
              go_wp2_with fail
              go_roundw
              case rel => exact ⟨j + 1, hlt, by simp, HNX.out, HBW.out.alloc HBW.out.size _⟩
              case measure => simp [intOf]; omega
          · have e4 : (s.t.toList == t.t.toList) = false := (Lib.bytes_beq_false_iff _ _).2 h1
            have HNX := Lib.hid (bt_next HNO.out HSJ.out (fun h => h1 h.1))
            go_wp2_with fail
            go_roundw
            case rel => exact ⟨j + 1, hlt, by simp, HNX.out, HBW.out.alloc HBW.out.size _⟩
            case measure => simp [intOf]; omega
        · obtain rfl : j = 11 := by omega
          have HIT := Lib.hid (bt_none (c := c) (lev := lev) (k := k) (by rw [← HT.out]; exact HNO.out))
          obtain ⟨f0, f1, f2, f3, f4⟩ := free_5 ks
          obtain ⟨d0, d1, d2, d3, d4⟩ := cells_5 ks
          have HK3 := Lib.hid (blk_of ks (n := 5) rfl)
          have HB2 := Lib.hid hB2
          clear hB2 ks kt
          go_wp2_with fail
          obtain ⟨q0, q1, q2, q3, q4⟩ := store_five HK3.out (.string ⟨#[]⟩) (.int .i64 0) (.int .i64 0) (.int .i64 0) (.int .i64 0)
          refine bodyPost_ret (v := .tuple #[sgA sgZ, .bool false]) (by simp [results, Tryz.results133, go_sem, q0, q1, q2, q3, q4, sgZ]) rfl ?_
          rw [HIT.out]
          exact ⟨sgZ, false, c, rfl, ⟨rfl, rfl, rfl⟩, (HH.out.keep HB2.out).other (but_five' _ _ _ _ _ _ _) (by have := HH.out.lt'; omega) (HH.out.apart (Nat.le_refl _)).2.2, but_five (but_below HB2.out) (Nat.le_refl _) _ _ _ _ _⟩
  · have e3 : (t.k != 3) = true := by simp; omega
    have e1 : (t.k != 1) = true := by simp; omega
    have hno : sgn c lev k = none := by unfold sgn; rw [← HT.out]; exact if_neg hk
    have HNO := Lib.hid hno
    clear hk hno
    go_enter Tryz.func133, Tryz.ntmps133
    go_wp2_with (go_at_call 17; (with_reducible refine HN.out.mono ?_))
    rintro e x2 ⟨rfl, hb2⟩
    obtain ⟨k1, k2, hz, hB⟩ := tk_block (q := tkO t) hb2
    obtain ⟨t0, t1, t2, t3⟩ := cells_4 k2
    obtain ⟨f0, f1, f2, f3, f4⟩ := free_5 k1
    obtain ⟨d0, d1, d2, d3, d4⟩ := cells_5 k1
    have HK3 := Lib.hid (blk_of k1 (n := 5) rfl)
    have HB := Lib.hid hB
    clear hb2 k1 k2 hB r0 r1 hz
    go_wp2_with fail
    obtain ⟨q0, q1, q2, q3, q4⟩ := store_five HK3.out (.string ⟨#[]⟩) (.int .i64 0) (.int .i64 0) (.int .i64 0) (.int .i64 0)
    refine bodyPost_ret (v := .tuple #[sgA sgZ, .bool false]) (by simp [results, Tryz.results133, go_sem, q0, q1, q2, q3, q4, sgZ]) rfl ?_
    rw [HNO.out]
    exact ⟨sgZ, false, c, rfl, ⟨rfl, rfl, rfl⟩, (HH.out.keep HB.out).other (but_five' _ _ _ _ _ _ _) (by have := HH.out.lt'; omega) (HH.out.apart (Nat.le_refl _)).2.2, but_five (but_below HB.out) (Nat.le_refl _) _ _ _ _ _⟩
end Go.Proofs.YtcfcpbkeedfbpaaGreatDoor

namespace Go.Proofs.YtcfcpbkeedfbpaaGreatDoor
open Go.RowKit CurSpec TermSpec ExprSpec NamesSpec
set_option maxRecDepth 100000

/-- What holds of a cursor, and stays where it goes on or tells a fault, holds of all that is read. -/
def Inv (P : Cur → Prop) : Prop := (∀ c, P c → P (on c)) ∧ ∀ c e, P c → P (fail c e)
theorem Inv.want {P : Cur → Prop} (h : Inv P) {c : Cur} (hc : P c) (k : Int) (s : ByteArray) : P (want c k s) := by
  unfold CurSpec.want
  split
  · exact h.1 _ hc
  · exact h.2 _ _ hc
theorem Inv.nameC {P : Cur → Prop} (h : Inv P) {c : Cur} (hc : P c) : P (nameC c) := by
  unfold CurSpec.nameC
  split
  · exact h.1 _ hc
  · exact h.2 _ _ hc
theorem Inv.numC {P : Cur → Prop} (h : Inv P) {c : Cur} (hc : P c) (m : Int) : P (numC c m) := by
  unfold CurSpec.numC
  split
  · exact h.1 _ hc
  · exact h.2 _ _ hc
theorem Inv.hd {P : Cur → Prop} (h : Inv P) {rec : Cur → Int → Pa} (hr : ∀ c k, P c → P (rec c k).1) {c : Cur} (hc : P c) (k : Int) : P (hd rec c k).1.1 := by
  have two_ok : ∀ c o, P c → P (two rec c o).1 := fun c o hc => h.want (hr _ _ (h.want (hr _ _ (h.want hc _ _)) _ _)) _ _
  unfold ExprSpec.hd
  split
  · exact hr _ _ (h.1 _ hc)
  split
  · exact hr _ _ (h.1 _ hc)
  · dsimp only
    unfold atom
    split
    · exact h.numC hc _
    split
    · exact h.1 _ hc
    split
    · exact h.1 _ hc
    split
    · exact h.want (h.nameC (h.want (h.1 _ hc) _ _)) _ _
    split
    · exact two_ok _ _ (h.1 _ hc)
    split
    · exact two_ok _ _ (h.1 _ hc)
    split
    · exact h.want (hr _ _ (h.1 _ hc)) _ _
    · exact h.nameC hc
theorem Inv.all {P : Cur → Prop} (h : Inv P) : ∀ f, (∀ c k, P c → P (S f c k).1) ∧ ∀ lev k c x, P c → P (C f lev k c x).1
  | 0 => ⟨fun c k hc => hc, fun lev k c x hc => hc⟩
  | f + 1 => by
    obtain ⟨ih1, ih2⟩ := Inv.all h f
    refine ⟨fun c k hc => ?_, fun lev k c x hc => ?_⟩
    · by_cases h0 : c.bad = 0
      · rw [S_good f k h0]
        exact ih2 _ _ _ _ (h.hd ih1 hc k)
      · rw [S_dead _ k h0]; exact hc
    · cases hs : sgn c lev k with
      | none => rw [C_stop _ x hs]; exact hc
      | some s => rw [C_step f x hs]; exact ih2 _ _ _ _ (ih1 _ _ (h.1 _ hc))
theorem inv_ok : Inv Ok := ⟨fun _ h => h.on, fun _ e h => h.fail e⟩

/-- The terms that are there, of those that were and those that were read: 41 at most. -/
def CapD (c : Cur) (pre x l : List Tm) : Prop := pre.length ≤ l.length ∧ (c.bad = 0 → (if pre.length + x.length ≤ 41 then l = pre ++ x else l.length = 41))
theorem CapD.start (c : Cur) (pre : List Tm) (h : pre.length ≤ 41) : CapD c pre [] pre := ⟨Nat.le_refl _, fun _ => by simp [h]⟩
theorem CapD.dead {c d : Cur} {pre x y l : List Tm} (h : CapD c pre x l) (hd : d.bad ≠ 0) : CapD d pre y l := ⟨h.1, fun h' => absurd h' hd⟩
theorem CapD.to {c d : Cur} {pre x l : List Tm} (h : CapD c pre x l) (hd : d.bad = 0 → c.bad = 0) : CapD d pre x l := ⟨h.1, fun h' => h.2 (hd h')⟩
theorem CapD.ins {c d : Cur} {pre x l : List Tm} (t : Tm) (hl : l.length ≤ 41) (hd : d.bad = 0 → c.bad = 0) (h : CapD c pre x l) : CapD d pre (t :: x) (ins l pre.length t) := by
  obtain ⟨h1, h2⟩ := h
  refine ⟨?_, fun hb => ?_⟩
  · unfold Go.Proofs.YtcfcpbkeedfbpaaGreatDoor.ins
    split
    · simp only [List.length_append, List.length_take, List.length_cons, List.length_drop]; omega
    · exact h1
  · have h3 := h2 (hd hb)
    unfold Go.Proofs.YtcfcpbkeedfbpaaGreatDoor.ins
    by_cases h40 : l.length ≤ 40
    · rw [if_pos h40]
      by_cases hp : pre.length + x.length ≤ 41
      · rw [if_pos hp] at h3
        subst h3
        rw [List.length_append] at h40
        rw [if_pos (by simp only [List.length_cons]; omega), List.take_left, List.drop_left]
      · rw [if_neg hp] at h3; omega
    · rw [if_neg h40]
      by_cases hp : pre.length + x.length ≤ 41
      · rw [if_pos hp] at h3
        subst h3
        rw [List.length_append] at h40 hl
        rw [if_neg (by simp only [List.length_cons]; omega), List.length_append]
        omega
      · rw [if_neg (by simp only [List.length_cons]; omega)]; omega
theorem CapD.join {d e : Cur} {pre y l2 r l3 : List Tm} (hl : l3.length ≤ 41) (he : e.bad = 0 → d.bad = 0) (h1 : CapD d pre y l2) (h2 : CapD e l2 r l3) : CapD e pre (y ++ r) l3 := by
  refine ⟨Nat.le_trans h1.1 h2.1, fun hb => ?_⟩
  have g1 := h1.2 (he hb)
  have g2 := h2.2 hb
  have hle := h2.1
  rw [List.length_append]
  by_cases hp : pre.length + y.length ≤ 41
  · rw [if_pos hp] at g1
    subst g1
    rw [List.length_append] at g2 hle
    by_cases hq : pre.length + y.length + r.length ≤ 41
    · rw [if_pos hq] at g2
      rw [if_pos (by omega), g2, List.append_assoc]
    · rw [if_neg hq] at g2
      rw [if_neg (by omega)]; exact g2
  · rw [if_neg hp] at g1
    rw [if_neg (by omega)]
    omega
theorem SignsIn.hold {w w' : World} {R B : Nat} {v v' : Value} {c : Cur} {l : List Tm} (h : SignsIn w) (hr : RdAt w R B v c l) (hh : Hold R B v v' w w') : SignsIn w' := by
  have hp := h.pos
  refine h.of (hh.block _ hp ?_ ?_ ?_)
  · rintro e
    obtain ⟨T, fr, h⟩ := h
    obtain ⟨b, off, n, cp, hB, _⟩ := hr.cur
    rw [e, hB] at h
    simp only [Option.some.injEq, Obj.cells.injEq] at h
    exact absurd ((congrArg Array.size h.1).symm.trans rfl) (show ¬ signsV.size = _ by rw [show signsV.size = 55 by decide]; simp)
  · rintro e
    obtain ⟨T, fr, h⟩ := h
    rw [e, hr.blk] at h
    simp only [Option.some.injEq, Obj.cells.injEq] at h
    exact absurd ((congrArg Array.size h.1).symm.trans rfl) (show ¬ signsV.size = _ by rw [show signsV.size = 55 by decide]; simp)
  · intro e
    obtain ⟨T, fr, h⟩ := h
    rcases hr.own.2 with ⟨h1, _⟩ | ⟨g, cap, cur, h1, _, h3, _, _, h6, _⟩
    · rw [h1] at e; cases e
    · rw [h1] at e
      cases e
      rw [h3] at h
      simp only [Option.some.injEq, Obj.cells.injEq] at h
      rw [h.1] at h6
      have : signsV.size = 55 := by decide
      omega

def RetPart (W : World) (R B : Nat) (v : Value) (pre : List Tm) (p : Pa) (e : Ending) (w' : World) : Prop :=
  ∃ v' l', e = .returned (.tuple #[]) ∧ RdAt w' R B v' p.1 l' ∧ CapD p.1 pre p.2 l' ∧ Hold R B v v' W w'
def RetHead (W : World) (R B : Nat) (v : Value) (pre : List Tm) (h : Pa × Int) (e : Ending) (w' : World) : Prop :=
  ∃ v' l', e = .returned (.int .i64 h.2) ∧ RdAt w' R B v' h.1.1 l' ∧ CapD h.1.1 pre h.1.2 l' ∧ Hold R B v v' W w'
def PartOk (f : Nat) : Prop := ∀ (R B : Nat) (v : Value) (c : Cur) (l : List Tm) (k : Int) (w : World), SignsIn w → RdAt w R B v c l → Ok c → Fit f c →
  Calls Tryz.prog 106 #[.pointer (some ⟨R, 0, none⟩), .int .i64 k] w (RetPart w R B v l (S f c k))

/-- In a call of the reader: where it stands, what was left of the rest. -/
structure Mid (W : World) (R B : Nat) (v : Value) (pre : List Tm) (c : Cur) (x : List Tm) (v1 : Value) (l1 : List Tm) (w : World) : Prop where
  rd : RdAt w R B v1 c l1
  cap : CapD c pre x l1
  hold : Hold R B v v1 W w
  sig : SignsIn w
theorem Mid.start {w : World} {R B : Nat} {v : Value} {c : Cur} {l : List Tm} (hs : SignsIn w) (h : RdAt w R B v c l) : Mid w R B v l c [] v l w := ⟨h, CapD.start c l h.few, Hold.refl _ _ _ _, hs⟩
theorem Mid.cell {W : World} {R B : Nat} {v : Value} {pre : List Tm} {c : Cur} {x : List Tm} {v1 : Value} {l1 : List Tm} {w : World} (h : Mid W R B v pre c x v1 l1 w) : w.cell? ⟨R, 0, none⟩ = some (.pointer (some ⟨B, 0, none⟩)) := (cells_2 h.rd.blk).1
/-- Behind a call of the cursor. -/
theorem Mid.cur {W : World} {R B : Nat} {v : Value} {pre : List Tm} {c d : Cur} {x : List Tm} {v1 : Value} {l1 : List Tm} {w w' : World} (h : Mid W R B v pre c x v1 l1 w) (hc : CurAt w' B d) (hb : w.grownBy w' (some B)) (hd : d.bad = 0 → c.bad = 0) : Mid W R B v pre d x v1 l1 w' :=
  ⟨h.rd.but hb hc, h.cap.to hd, h.hold.trans (Hold.of_but v1 hb), h.sig.hold h.rd (Hold.of_but v1 hb)⟩
theorem Mid.below {W : World} {R B : Nat} {v : Value} {pre : List Tm} {c : Cur} {x : List Tm} {v1 : Value} {l1 : List Tm} {w w' : World} (h : Mid W R B v pre c x v1 l1 w) (hb : Below w.heap.size w w') : Mid W R B v pre c x v1 l1 w' :=
  ⟨h.rd.keep hb, h.cap, h.hold.trans (Hold.of_below v1 hb), h.sig.keep hb⟩
theorem Mid.alloc {W : World} {R B : Nat} {v : Value} {pre : List Tm} {c : Cur} {x : List Tm} {v1 : Value} {l1 : List Tm} {w : World} (h : Mid W R B v pre c x v1 l1 w) (o : Obj) : Mid W R B v pre c x v1 l1 (w.alloc o) := h.below ((Below.refl _ _).alloc (Nat.le_refl _) _)
/-- Behind an insertion of a term ahead of what was read. -/
theorem Mid.ins {W : World} {R B : Nat} {v : Value} {pre : List Tm} {c : Cur} {x : List Tm} {v1 v2 : Value} {l1 : List Tm} {w w' : World} (h : Mid W R B v pre c x v1 l1 w) (t : Tm) (hr : RdAt w' R B v2 c (ins l1 pre.length t)) (hh : Hold R B v1 v2 w w') : Mid W R B v pre c (t :: x) v2 (ins l1 pre.length t) w' :=
  ⟨hr, h.cap.ins t h.rd.few id, h.hold.trans hh, h.sig.hold h.rd hh⟩
/-- Behind a part. -/
theorem Mid.part {W : World} {R B : Nat} {v : Value} {pre : List Tm} {c : Cur} {x : List Tm} {v1 : Value} {l1 : List Tm} {w w' : World} (h : Mid W R B v pre c x v1 l1 w) {p : Pa} {v2 : Value} {l2 : List Tm} (hp : p.1.bad = 0 → c.bad = 0)
    (hr : RdAt w' R B v2 p.1 l2) (hc : CapD p.1 l1 p.2 l2) (hh : Hold R B v1 v2 w w') : Mid W R B v pre p.1 (x ++ p.2) v2 l2 w' :=
  ⟨hr, h.cap.join hr.few hp hc, h.hold.trans hh, h.sig.hold h.rd hh⟩
theorem Mid.ret {W : World} {R B : Nat} {v : Value} {pre : List Tm} {c : Cur} {x : List Tm} {v1 : Value} {l1 : List Tm} {w : World} (h : Mid W R B v pre c x v1 l1 w) {p : Pa} (hp : p = (c, x)) : RetPart W R B v pre p (.returned (.tuple #[])) w := by
  subst hp
  exact ⟨v1, l1, rfl, h.rd, h.cap, h.hold⟩
theorem Mid.head {W : World} {R B : Nat} {v : Value} {pre : List Tm} {c : Cur} {x : List Tm} {v1 : Value} {l1 : List Tm} {w : World} (h : Mid W R B v pre c x v1 l1 w) {p : Pa × Int} {n : Int} (hp : p = ((c, x), n)) : RetHead W R B v pre p (.returned (.int .i64 n)) w := by
  subst hp
  exact ⟨v1, l1, rfl, h.rd, h.cap, h.hold⟩

/-- What add answers, onto what was there before anything was read. -/
theorem add_mid {W : World} {R B : Nat} {v : Value} {c : Cur} {v1 : Value} {l1 : List Tm} {w : World} (h : Mid W R B v l1 c [] v1 l1 w) (o n : Int) (s : ByteArray) (hs : s.size ≤ 9223372036854775807) :
    Calls Tryz.prog 157 #[.pointer (some ⟨R, 0, none⟩), .agg #[.int .i64 o, .int .i64 n, .string s]] w fun e w' => ∃ v2 l2, e = .returned (.tuple #[]) ∧ Mid W R B v l1 c [⟨o, n, s⟩] v2 l2 w' := by
  refine (add_at R B v1 c l1 ⟨o, n, s⟩ w h.rd hs).mono ?_
  rintro e w' ⟨v2, rfl, hr, hh⟩
  exact ⟨v2, _, rfl, h.ins _ hr hh⟩
theorem part_mid {f : Nat} (hP : PartOk f) {W : World} {R B : Nat} {v : Value} {pre : List Tm} {c : Cur} {x : List Tm} {v1 : Value} {l1 : List Tm} {w : World} (h : Mid W R B v pre c x v1 l1 w) (k : Int) (ok : Ok c) (hf : Fit f c) :
    Calls Tryz.prog 106 #[.pointer (some ⟨R, 0, none⟩), .int .i64 k] w fun e w' => ∃ v2 l2, e = .returned (.tuple #[]) ∧ Mid W R B v pre (S f c k).1 (x ++ (S f c k).2) v2 l2 w' := by
  refine (hP R B v1 c l1 k w h.sig h.rd ok hf).mono ?_
  rintro e w' ⟨v2, l2, rfl, hr, hc, hh⟩
  exact ⟨v2, l2, rfl, h.part (S_less f c k).2 hr hc hh⟩
theorem want_mid {W : World} {R B : Nat} {v : Value} {pre : List Tm} {c : Cur} {x : List Tm} {v1 : Value} {l1 : List Tm} {w : World} (h : Mid W R B v pre c x v1 l1 w) (k : Int) (s : ByteArray) :
    Calls Tryz.prog 63 #[.pointer (some ⟨B, 0, none⟩), .int .i64 k, .string s] w fun e w' => e = .returned (.tuple #[]) ∧ Mid W R B v pre (want c k s) x v1 l1 w' := by
  refine (want_at B c k s w h.rd.cur).mono ?_
  rintro e w' ⟨rfl, hc, hb⟩
  exact ⟨rfl, h.cur hc hb (fun hg => (isB_next (want_good hg).1).1)⟩
theorem take_yes {W : World} {R B : Nat} {v : Value} {pre : List Tm} {c : Cur} {x : List Tm} {v1 : Value} {l1 : List Tm} {w : World} (h : Mid W R B v pre c x v1 l1 w) {k : Int} {s : ByteArray} (hb : isB c k s = true) :
    Calls Tryz.prog 34 #[.pointer (some ⟨B, 0, none⟩), .int .i64 k, .string s] w fun e w' => e = .returned (.bool true) ∧ Mid W R B v pre (on c) x v1 l1 w' := by
  have ht : take c k s = on c := by unfold take; rw [if_pos hb]
  have := take_at B c k s w h.rd.cur
  rw [hb, ht] at this
  refine this.mono ?_
  rintro e w' ⟨rfl, hc, hg⟩
  exact ⟨rfl, h.cur hc hg (fun hg => by rw [(on_bad c).1] at hg; exact hg)⟩
theorem take_no {W : World} {R B : Nat} {v : Value} {pre : List Tm} {c : Cur} {x : List Tm} {v1 : Value} {l1 : List Tm} {w : World} (h : Mid W R B v pre c x v1 l1 w) {k : Int} {s : ByteArray} (hb : isB c k s = false) :
    Calls Tryz.prog 34 #[.pointer (some ⟨B, 0, none⟩), .int .i64 k, .string s] w fun e w' => e = .returned (.bool false) ∧ Mid W R B v pre c x v1 l1 w' := by
  have ht : take c k s = c := by unfold take; rw [if_neg (by rw [hb]; decide)]
  have := take_at B c k s w h.rd.cur
  rw [hb, ht] at this
  refine this.mono ?_
  rintro e w' ⟨rfl, hc, hg⟩
  exact ⟨rfl, h.cur hc hg id⟩
theorem name_mid {W : World} {R B : Nat} {v : Value} {pre : List Tm} {c : Cur} {x : List Tm} {v1 : Value} {l1 : List Tm} {w : World} (h : Mid W R B v pre c x v1 l1 w) (ok : Ok c) :
    Calls Tryz.prog 62 #[.pointer (some ⟨B, 0, none⟩)] w fun e w' => e = .returned (.string (nameS c)) ∧ Mid W R B v pre (nameC c) x v1 l1 w' := by
  refine (name_at B c ok w h.rd.cur).mono ?_
  rintro e w' ⟨rfl, hc, hg⟩
  exact ⟨rfl, h.cur hc hg (fun hg => (nameB_next (nameC_good hg).1).1)⟩
theorem number_mid {W : World} {R B : Nat} {v : Value} {pre : List Tm} {c : Cur} {x : List Tm} {v1 : Value} {l1 : List Tm} {w : World} (h : Mid W R B v pre c x v1 l1 w) (m : Int) (ok : Ok c) :
    Calls Tryz.prog 171 #[.pointer (some ⟨B, 0, none⟩), .int .i64 m] w fun e w' => e = .returned (.int .i64 (numN c m)) ∧ Mid W R B v pre (numC c m) x v1 l1 w' := by
  refine (number_at B c m ok w h.rd.cur).mono ?_
  rintro e w' ⟨rfl, hc, hg⟩
  exact ⟨rfl, h.cur hc hg (fun hg => (numE_next (numC_good hg).1).1)⟩
theorem peek_mid {W : World} {R B : Nat} {v : Value} {pre : List Tm} {c : Cur} {x : List Tm} {v1 : Value} {l1 : List Tm} {w : World} (h : Mid W R B v pre c x v1 l1 w) :
    Calls Tryz.prog 17 #[.pointer (some ⟨B, 0, none⟩)] w fun e w' => e = .returned (.agg #[.int .i64 (next c).k, .string (next c).t, .int .i64 (next c).l, .int .i64 (next c).c]) ∧ Mid W R B v pre c x v1 l1 w' := by
  refine (next_at B c w h.rd.cur).mono ?_
  rintro e w' ⟨rfl, hb⟩
  exact ⟨rfl, h.below hb⟩
theorem nameS_small (c : Cur) (ok : Ok c) : (nameS c).size ≤ 9223372036854775807 := by
  unfold nameS
  split
  · exact ok.next
  · decide

end Go.Proofs.YtcfcpbkeedfbpaaGreatDoor
