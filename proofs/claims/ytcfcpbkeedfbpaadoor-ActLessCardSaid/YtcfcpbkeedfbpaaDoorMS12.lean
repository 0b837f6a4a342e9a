/- ActText, EvalAwake, ActAwake, ActLessLaw, ScanSpec, ScanRef, ScanRefOne, ScanRefToks, joined. -/
import Derived.Test.YtcfcpbkeedfbpaaDoorMS07
import Derived.Test.YtcfcpbkeedfbpaaDoorMS10
import Derived.Test.YtcfcpbkeedfbpaaDoorMS04
import Derived.Test.YtcfcpbkeedfbpaaDoorMS11
import Derived.Test.YtcfcpbkeedfbpaaDoorShelf
import Derived.Test.YtcfcpbkeedfbpaaDoorMS05
import Derived.Laws.Tables
import Derived.Test.YtcfcpbkeedfbpaaDoorMS08
import Derived.Deep.RegionHeld3
import Derived.Test.YtcfcpbkeedfbpaaDoorMS00
import Derived.Test.YtcfcpbkeedfbpaaDoorRows
import Derived.BigQuiet
import Derived.Deep.QuietTactic
import Derived.IntWalk
namespace Go.Proofs.YtcfcpbkeedfbpaaDoor
open Go.RowKit TermSpec EvalSpec ActSpec NamesSpec ExprSpec
set_option maxRecDepth 100000

set_option maxHeartbeats 1000000 in
theorem atext_any (t : Ta) (h : t.Ok) (A : Option Addr) (n c : Nat) (w : World) (ht : Tms w (.slice A n c) t.ac.x) (hsm : Small t.ac.x) (hg : SignsIn w) :
    Calls Tryd.prog 15 #[.agg #[.string t.s, .bool t.any, .slice A n c]] w (RetS w (txA t)) := by
  have hsz := name_size h.1
  rcases ha : t.any with _ | _
  · obtain ⟨hgx, hk⟩ := h.2 ha
    have h40 := ta_few h ha
    have htz := tx_size hgx
    have hx : t.ac.x = flat t.e := by simp [Ta.ac, ha]
    rw [hx] at ht hsm
    obtain ⟨A', n', c', heq, hn, hnc⟩ := ht.shape
    cases heq
    have HP : Hid (∀ W, Below w.heap.size w W → Calls Tryd.prog 27 #[.slice A n c] W (RetPut W (tx t.e) 0)) := Lib.hid (fun W hW => put_ok A n c (flat t.e) W (ht.keep hW) hn hsm (hg.keep hW) rfl hgx hk h40)
    have HT : Hid (txA t = t.s ++ ⟨#[32, 58, 61, 32]⟩ ++ tx t.e) := Lib.hid (by unfold txA; rw [if_neg (by simp [ha])])
    obtain ⟨x, hxx⟩ : ∃ x, x = tx t.e := ⟨_, rfl⟩
    rw [← hxx] at HP HT htz
    have h5 : t.s.size ≤ 12 := hsz
    have h6 : x.size ≤ 1200 := by omega
    obtain ⟨s, hs⟩ : ∃ s, s = t.s := ⟨_, rfl⟩
    rw [← hs] at HT h5 ⊢
    have h7 : ¬ 9223372036854775807 < s.size + 4 := by omega
    have h8 : ¬ 9223372036854775807 < s.size + 4 + x.size := by omega
    clear hx ht hn hnc hgx hk h40 htz hxx hs hsz ha hg hsm
    go_enter Tryd.func15, Tryd.ntmps15
    go_wp2_with (go_at_call 27; (with_reducible refine (HP.out _ (KitC.below_one _ _)).mono ?_))
    rintro e2 w2 ⟨rfl, hb2⟩
    obtain ⟨B2, hbb, _⟩ := KitC.one_block hb2
    have HB2 := Lib.hid hbb
    obtain ⟨c0, c1, c2⟩ := cells_3 B2
    clear hb2 hbb B2
    go_wp2_with fail
    go_ret
    exact ⟨by rw [HT.out]; rfl, HB2.out⟩
  · have HT : Hid (txA t = ⟨#[97, 110, 121, 32]⟩ ++ t.s) := Lib.hid (by unfold txA; rw [if_pos ha])
    obtain ⟨s, hs⟩ : ∃ s, s = t.s := ⟨_, rfl⟩
    rw [← hs] at HT hsz ⊢
    have h7 : ¬ 9223372036854775807 < 4 + s.size := by omega
    clear ht hs ha hg h hsm
    go_enter Tryd.func15, Tryd.ntmps15
    go_wp2_with fail
    go_ret
    exact ⟨by rw [HT.out]; rfl, KitC.below_one _ _⟩
def APutRel (W w1 : World) (ts : List Ta) (p i : Value) (wr : World) : Prop := ∃ k : Nat, k ≤ ts.length ∧ i = .int .i64 k ∧ RowS w1 wr p ((ts.take k).map txA) ∧ Below W.heap.size W w1
theorem txs_next {ts : List Ta} {k : Nat} {t : Ta} (h : ts[k]? = some t) : (ts.take (k + 1)).map txA = (ts.take k).map txA ++ [txA t] := by rw [take_next h, List.map_append]; rfl
/-- The call of Join over a row of the call's own. -/
theorem join_row {W w : World} {p : Value} {xs : List ByteArray} (h : RowS W w p xs) (h8 : xs.length ≤ 8) (hl : (Lib.join (xs.map (·.data.toList)) [44, 32]).length ≤ 140737488355328) :
    ∃ A n c, p = .slice A n c ∧ Calls Tryd.prog 16 #[.slice A n c, .string ⟨#[44, 32]⟩] w (RetS w ⟨(Lib.join (xs.map (·.data.toList)) [44, 32]).toArray⟩) := by
  obtain ⟨A, n, c, rfl, hn, hc, hA⟩ := h.read.strs
  rcases Nat.eq_zero_or_pos n with h0 | h0
  · subst h0
    obtain rfl : xs = [] := List.eq_nil_of_length_eq_zero hn
    exact ⟨A, 0, c, rfl, (Tryd.strings_Join_none A c _ w).mono fun e w' ⟨he, hw⟩ => ⟨he, by rw [hw]; exact Below.refl _ _⟩⟩
  · obtain ⟨b, off, rfl, hb, hcell⟩ := hA h0
    subst hn
    exact ⟨_, _, c, rfl, Tryd.strings_Join b off c xs ⟨#[44, 32]⟩ w hcell hb (by omega) hc hl⟩
set_option maxHeartbeats 4000000 in
theorem aput_any (A : Option Addr) (n c : Nat) (l : List Ac) (hs : ∀ a ∈ l, SmallA a) (hl : l.length ≤ 9223372036854775807) (w : World) (h : Acs w (.slice A n c) l) (hg : SignsIn w) :
    (chkA l ≠ 0 → Calls Tryd.prog 9 #[.slice A n c] w (RetPut w ⟨#[]⟩ (chkA l))) ∧
    (∀ ts : List Ta, ts.map Ta.ac = l → (∀ t ∈ ts, t.Ok) → chkA l = 0 → Calls Tryd.prog 9 #[.slice A n c] w (RetPut w (putB ts) 0)) := by
  have HT := Lib.hid h
  have HN := Lib.hid h.len.1
  have hcap := h.len.2
  have HCK := Lib.hid (check_acts A n c l hs hl w h)
  have HG := Lib.hid hg
  have HS := Lib.hid hs
  refine ⟨fun hk => ?_, fun ts hts hok hk => ?_⟩
  · obtain ⟨k, hkk⟩ : ∃ k, k = chkA l := ⟨_, rfl⟩
    rw [← hkk] at HCK hk ⊢
    have e1 : (k != 0) = true := by simpa using hk
    clear h hs hl hg hkk hk
    go_enter Tryd.func9, Tryd.ntmps9
    go_wp2_with (go_at_call 11; (with_reducible refine HCK.out.mono ?_))
    rintro e w1 ⟨rfl, hb1⟩
    have HB := Lib.hid hb1
    clear hb1
    go_wp2_with fail
    go_ret2
    exact ⟨rfl, HB.out⟩
  · have h8 : ts.length ≤ 8 := by
      have h1 : l.length = ts.length := by rw [← hts, List.length_map]
      have h2 : l.length ≤ 8 := by
        unfold chkA at hk
        split at hk
        · cases hk
        · omega
      omega
    have HLN : Hid (l.length = ts.length) := Lib.hid (by rw [← hts, List.length_map])
    rw [hk] at HCK
    obtain ⟨i0, hi, hz0, hz1, hz2⟩ := info_parts inf_str
    have HI := Lib.hid (And.intro hi (And.intro hz0 (And.intro hz1 hz2)))
    have HOK := Lib.hid hok
    have HTS := Lib.hid hts
    obtain ⟨P, hP⟩ : ∃ P, P = putB ts := ⟨_, rfl⟩
    rw [← hP]
    have HP := Lib.hid hP
    have HJL : Hid ((Lib.join ((ts.map txA).map (·.data.toList)) [44, 32]).length ≤ 140737488355328 ∧ (⟨(Lib.join ((ts.map txA).map (·.data.toList)) [44, 32]).toArray⟩ : ByteArray) = putB ts) := Lib.hid (by
      have h1 := putB_size hok
      have h2 : (putB ts).size = (putT ts).length := by simp [putB, ByteArray.size]
      have h3 : Lib.join ((ts.map txA).map (·.data.toList)) [44, 32] = putT ts := by unfold putT; rw [List.map_map]; rfl
      rw [h3]
      exact ⟨by omega, rfl⟩)
    clear h hs hl hg hk hts hok hi hz0 hz1 hz2 hP
    go_enter Tryd.func9, Tryd.ntmps9
    go_wp2_with (go_at_call 11; (with_reducible refine HCK.out.mono ?_))
    rintro e w1 ⟨rfl, hb1⟩
    have HB1 := Lib.hid hb1
    clear hb1
    go_wp2_with fail
    go_loopw [5, 7, 15] (fun p _ i wr => APutRel w w1 ts p i wr) (fun _ _ i _ => ts.length - (intOf i).toNat)
    case atStart => exact ⟨0, Nat.zero_le _, rfl, RowS.nil _ _ (Below.refl _ _), HB1.out⟩
    case round =>
      obtain ⟨k, hkt, rfl, hrow, _⟩ := hrel
      have HR0 := Lib.hid hrow
      have HWB := Lib.hid (below_two' HB1.out hrow.2)
      clear hrow
      by_cases hlt : k < n
      · have hkI : (k : Int) < n := by omega
        have hk8 : (k : Int) ≤ 8 := by omega
        obtain ⟨t, ht⟩ : ∃ t, ts[k]? = some t := get_some (by have := HN.out; have := HLN.out; omega)
        have hla : l[k]? = some t.ac := by rw [← HTS.out, List.getElem?_map, ht]; rfl
        obtain ⟨b, off, tA, tn, tc, rfl, hb, htm, d0, d1, d2⟩ := (HT.out.keep HWB.out).at_ hla
        obtain ⟨tA', tn', tc', heq, htn, htc⟩ := htm.shape
        cases heq
        have HC : Hid (∀ V, Below wr.heap.size wr V → Calls Tryd.prog 15 #[.agg #[.string t.s, .bool t.any, .slice tA tn tc]] V (RetS V (txA t))) := Lib.hid (fun V hV => atext_any t (HOK.out t (List.mem_of_getElem? ht)) tA tn tc V (htm.keep hV) (HS.out _ (List.mem_of_getElem? hla)).2.1 (HG.out.keep (below_two' HWB.out hV)))
        have HX := Lib.hid (txs_next ht)
        have hd0 : wr.cell? ⟨b, off + k * 3, none⟩ = some (.string t.s) := d0
        have hd1 : wr.cell? ⟨b, off + k * 3 + 1, none⟩ = some (.bool t.any) := d1
        obtain ⟨x, hx⟩ : ∃ x, x = txA t := ⟨_, rfl⟩
        rw [← hx] at HC HX
        have HL1 : Hid (((ts.take k).map txA).length + (strV [x]).length ≤ maxLen) := Lib.hid (by rw [List.length_map, List.length_take]; simp [maxLen]; omega)
        have HL2 : Hid ((((ts.take k).map txA).length + (strV [x]).length) * 16 ≤ 140737488355328) := Lib.hid (by rw [List.length_map, List.length_take]; simp; omega)
        clear ht hla htm htn hx d0 d1
        obtain ⟨ta, tany, te⟩ := t
        simp only at hd0 hd1 HC
        go_wp2_with (go_at_call 15; (with_reducible refine (HC.out _ (KitC.below_one _ _)).mono ?_))
        rintro e w2 ⟨rfl, hb2⟩
        have HR1 := Lib.hid (HR0.out.keep (below_two' (KitC.below_one _ _) hb2))
        have HSZ : Hid (w1.heap.size ≤ w2.heap.size) := Lib.hid HR1.out.2.size
        have HRA := Lib.hid HR1.out.1
        clear hb2
        go_wp2_with (at_builtin; refine wpList_append_rd _ rfl (.tmp 19) (.tmp 22) _ rfl w1.heap.size 9 i0 (.string ByteArray.empty) 16 Tryd.underlying35 HI.out.1 HI.out.2.1 HI.out.2.2.1 HI.out.2.2.2 rfl _ _ _ rfl (own_keep HRA.out (KitC.below_one _ _)) _ (strV [x]) rfl (lit_here rfl rfl rfl) (strV_one _) HL1.out HL2.out ?_ ?_; (have := HSZ.out; simp; omega); intro p2 w3 hrow3 hg3 _; have HR2 := Lib.hid (RowS.add HR1.out hrow3 hg3); clear hrow3 hg3)
        go_roundw
        case rel => first | exact ⟨k + 1, by have := HN.out; have := HLN.out; omega, by go_num, by rw [HX.out]; exact HR2.out, HB1.out⟩ | ((repeat apply Exists.intro); exact ⟨⟨k + 1, by have := HN.out; have := HLN.out; omega, by go_num, by rw [HX.out]; exact HR2.out, HB1.out⟩, rfl⟩)
        case measure => have := HN.out; have := HLN.out; simp [intOf]; omega
      · have hkI : ¬ (k : Int) < n := by omega
        have hall : ts.take k = ts := List.take_of_length_le (by have := HN.out; have := HLN.out; omega)
        have hr := HR0.out
        rw [hall] at hr
        obtain ⟨jA, jn, jc, rfl, hj⟩ := join_row hr (by rw [List.length_map]; exact h8) HJL.out.1
        rw [HJL.out.2, ← HP.out] at hj
        have HJ := Lib.hid hj
        clear hall hr hj
        go_wp2_with (go_at_call 16; (with_reducible refine HJ.out.mono ?_))
        rintro e w2 ⟨rfl, hb2⟩
        have HB2 := Lib.hid (below_two' HWB.out hb2)
        clear hb2
        go_wp2_with fail
        go_ret2
        exact ⟨rfl, HB2.out⟩
end Go.Proofs.YtcfcpbkeedfbpaaDoor

namespace Go.Proofs.YtcfcpbkeedfbpaaDoor
open Go.RowKit TermSpec EvalSpec NamesSpec
set_option maxRecDepth 100000

def exL : List Tm := [⟨15, 0, ⟨#[]⟩⟩, ⟨4, 0, ⟨#[]⟩⟩, ⟨2, 0, ⟨#[120]⟩⟩, ⟨1, 1, ⟨#[]⟩⟩, ⟨1, 3, ⟨#[]⟩⟩]
def exL2 : List Tm := [⟨12, 0, ⟨#[]⟩⟩, ⟨1, 0, ⟨#[]⟩⟩]
def exE : Ev := ⟨[⟨⟨#[120]⟩, 0, 0, 0⟩], 1, 0, 0, 0, []⟩
def exE0 : Ev := ⟨[], 0, 0, 0, 0, []⟩
theorem exL_small : Small exL := by
  intro t ht
  simp only [exL, List.mem_cons, List.not_mem_nil, or_false] at ht
  rcases ht with rfl | rfl | rfl | rfl | rfl <;> decide
theorem exL2_small : Small exL2 := by
  intro t ht
  simp only [exL2, List.mem_cons, List.not_mem_nil, or_false] at ht
  rcases ht with rfl | rfl <;> decide
theorem ex_chk1 : chkE exE exL = 0 := by kernel_rfl
theorem ex_at1 : atE exE exL = 1 := by kernel_rfl
theorem ex_chk0 : chkE exE0 exL = 7 := by kernel_rfl
theorem ex_at0 : atE exE0 exL = 0 := by kernel_rfl
theorem ex_chk2 : chkE exE exL2 = 4 := by kernel_rfl
theorem ex_at2 : atE exE exL2 = 0 := by kernel_rfl
theorem ex_holds : holdsE exE exL = true := by kernel_rfl
abbrev exLO : Obj := .cells #[.int .i64 15, .int .i64 0, .string ⟨#[]⟩, .int .i64 4, .int .i64 0, .string ⟨#[]⟩, .int .i64 2, .int .i64 0, .string ⟨#[120]⟩, .int .i64 1, .int .i64 1, .string ⟨#[]⟩, .int .i64 1, .int .i64 3, .string ⟨#[]⟩] 30
abbrev exL2O : Obj := .cells #[.int .i64 12, .int .i64 0, .string ⟨#[]⟩, .int .i64 1, .int .i64 0, .string ⟨#[]⟩] 30
abbrev exVO : Obj := .cells #[.string ⟨#[120]⟩, .int .i64 0, .int .i64 0, .int .i64 0] 33
abbrev exEO (k : Nat) : Obj := .cells #[.slice (some ⟨k, 0, none⟩) 1 1, .int .i64 1, .int .i64 0, .int .i64 0, .int .i64 0, .slice none 0 0] 37
abbrev exEV (k : Nat) : Value := .agg #[.slice (some ⟨k, 0, none⟩) 1 1, .int .i64 1, .int .i64 0, .int .i64 0, .int .i64 0, .slice none 0 0]
abbrev exEV0 : Value := .agg #[.slice none 0 0, .int .i64 0, .int .i64 0, .int .i64 0, .int .i64 0, .slice none 0 0]
abbrev exP (k : Nat) : EP := ⟨some ⟨k, 0, none⟩, 1, 1, none, 0, 0⟩
abbrev exP0 : EP := ⟨none, 0, 0, none, 0, 0⟩
theorem tb_one (a : Int) (w : World) : (Instr.build 30 #[(0, .int .i64 a)]).run Tryd.prog w = .ok (.agg #[.int .i64 a, .int .i64 0, .string ⟨#[]⟩]) w := run_build w 30 _ _ (by kernel_rfl)
theorem tb_name (a : Int) (s : ByteArray) (w : World) : (Instr.build 30 #[(0, .int .i64 a), (2, .string s)]).run Tryd.prog w = .ok (.agg #[.int .i64 a, .int .i64 0, .string s]) w := run_build w 30 _ _ (by kernel_rfl)
theorem tb_num (a b : Int) (w : World) : (Instr.build 30 #[(0, .int .i64 a), (1, .int .i64 b)]).run Tryd.prog w = .ok (.agg #[.int .i64 a, .int .i64 b, .string ⟨#[]⟩]) w := run_build w 30 _ _ (by kernel_rfl)
theorem vb_one (s : ByteArray) (w : World) : (Instr.build 33 #[(0, .string s)]).run Tryd.prog w = .ok (.agg #[.string s, .int .i64 0, .int .i64 0, .int .i64 0]) w := run_build w 33 _ _ (by kernel_rfl)
theorem ab_one (a : Int) (w : World) : (Instr.build 22 #[(0, .int .i64 a)]).run Tryd.prog w = .ok (.agg #[.int .i64 a, .int .i64 0, .int .i64 0, .int .i64 0]) w := run_build w 22 _ _ (by kernel_rfl)
theorem eb_two (A : Option Addr) (n c : Nat) (a b x d : Int) (w : World) : (Instr.build 37 #[(0, .slice A n c), (1, .agg #[.int .i64 a, .int .i64 b, .int .i64 x, .int .i64 d])]).run Tryd.prog w = .ok (.agg #[.slice A n c, .int .i64 a, .int .i64 b, .int .i64 x, .int .i64 d, .slice none 0 0]) w := run_build w 37 _ _ (by kernel_rfl)
theorem eb_none (w : World) : (Instr.build 37 #[]).run Tryd.prog w = .ok (.agg #[.slice none 0 0, .int .i64 0, .int .i64 0, .int .i64 0, .int .i64 0, .slice none 0 0]) w := run_build w 37 _ _ (by kernel_rfl)
theorem env_none (w : World) : EnvIn w exP0 exE0 := ⟨⟨rfl, Rdk.nil 4 w⟩, Rd.nil w, by decide, by decide⟩
theorem vars_lit {w : World} {k : Nat} (hk : k = w.heap.size) : VarsIn (w.alloc exVO) (some ⟨k, 0, none⟩) 1 1 exE.vars := by
  subst hk
  refine ⟨rfl, _, 1, rfl, Nat.le_refl _, rfl, fun _ => ⟨w.heap.size, 0, rfl, by simp, fun j u hj => ?_⟩⟩
  rw [World.cell?_alloc_at _ _ _ _ rfl]
  rw [Nat.zero_add, ← Array.getElem?_toList]
  exact hj
theorem ex_env {w : World} {k : Nat} (h : VarsIn w (some ⟨k, 0, none⟩) 1 1 exE.vars) : EnvIn w (exP k) exE := ⟨h, Rd.nil w, by decide, by decide⟩
end Go.Proofs.YtcfcpbkeedfbpaaDoor

namespace Go.Proofs.YtcfcpbkeedfbpaaDoor
open Go.RowKit Go.Sort TermSpec EvalSpec ActSpec NamesSpec ExprSpec
set_option maxRecDepth 100000

def awX : ByteArray := ⟨#[120]⟩
def awT : List Tm := [⟨4, 0, ⟨#[]⟩⟩, ⟨2, 0, ⟨#[120]⟩⟩, ⟨1, 1, ⟨#[]⟩⟩]
def awL : List Ac := [⟨⟨#[120]⟩, true, []⟩, ⟨⟨#[120]⟩, false, awT⟩]
def awE : Ev := ⟨[⟨⟨#[120]⟩, 0, 1, 0⟩], 0, 0, 0, 0, []⟩
def awTs : List Ta := [⟨⟨#[120]⟩, true, .leaf ⟨9, 0, ⟨#[]⟩⟩⟩, ⟨⟨#[120]⟩, false, .bin 4 (.leaf ⟨2, 0, ⟨#[120]⟩⟩) (.leaf ⟨1, 1, ⟨#[]⟩⟩)⟩]
theorem aw_run : runE awE awL = (0, [⟨1, 0, 0, 0⟩]) := by kernel_rfl
theorem aw_run1 : runE awE (awL.take 1) = (0, [⟨0, 0, 0, 0⟩, ⟨1, 0, 0, 0⟩]) := by kernel_rfl
theorem aw_chk : chkA awL = 0 := by kernel_rfl
theorem aw_ts : awTs.map Ta.ac = awL := rfl
theorem aw_text : putB awTs = ⟨#[97, 110, 121, 32, 120, 44, 32, 120, 32, 58, 61, 32, 120, 32, 43, 32, 49]⟩ := by kernel_rfl
theorem aw_ok : ∀ t ∈ awTs, t.Ok := by
  intro t ht
  simp only [awTs, List.mem_cons, List.not_mem_nil, or_false] at ht
  rcases ht with rfl | rfl
  · exact ⟨by kernel_rfl, fun h => by cases h⟩
  · exact ⟨by kernel_rfl, fun _ => ⟨⟨by kernel_rfl, ⟨by kernel_rfl, by kernel_rfl⟩, ⟨by kernel_rfl, by kernel_rfl⟩⟩, by kernel_rfl⟩⟩
theorem aw_small : ∀ a ∈ awL, SmallA a := by
  intro a ha
  simp only [awL, List.mem_cons, List.not_mem_nil, or_false] at ha
  rcases ha with rfl | rfl
  · exact ⟨by decide, fun t ht => by simp at ht, by decide⟩
  · refine ⟨by decide, fun t ht => ?_, by decide⟩
    simp only [awT, List.mem_cons, List.not_mem_nil, or_false] at ht
    rcases ht with rfl | rfl | rfl <;> decide
theorem aw_small1 : ∀ a ∈ awL.take 1, SmallA a := fun a ha => aw_small a (List.mem_of_mem_take ha)
theorem aw_fit : ∀ v ∈ awE.vars, VFit v := by
  intro v hv
  simp only [awE, List.mem_cons, List.not_mem_nil, or_false] at hv
  subst hv
  exact ⟨by decide, by decide, by decide, by decide⟩
abbrev awTO : Obj := .cells #[.int .i64 4, .int .i64 0, .string ⟨#[]⟩, .int .i64 2, .int .i64 0, .string ⟨#[120]⟩, .int .i64 1, .int .i64 1, .string ⟨#[]⟩] 30
abbrev awAO (k : Nat) : Obj := .cells #[.string ⟨#[120]⟩, .bool true, .slice none 0 0, .string ⟨#[120]⟩, .bool false, .slice (some ⟨k, 0, none⟩) 3 3] 28
abbrev awVO : Obj := .cells #[.string ⟨#[120]⟩, .int .i64 0, .int .i64 1, .int .i64 0] 33
abbrev awEO (k : Nat) : Obj := .cells #[.slice (some ⟨k, 0, none⟩) 1 1, .int .i64 0, .int .i64 0, .int .i64 0, .int .i64 0, .slice none 0 0] 37
abbrev awEV (k : Nat) : Value := .agg #[.slice (some ⟨k, 0, none⟩) 1 1, .int .i64 0, .int .i64 0, .int .i64 0, .int .i64 0, .slice none 0 0]
theorem act_any (s : ByteArray) (w : World) : (Instr.build 28 #[(0, .string s), (1, .bool true)]).run Tryd.prog w = .ok (.agg #[.string s, .bool true, .slice none 0 0]) w := run_build w 28 _ _ (by kernel_rfl)
theorem act_set (s : ByteArray) (A : Option Addr) (n c : Nat) (w : World) : (Instr.build 28 #[(0, .string s), (2, .slice A n c)]).run Tryd.prog w = .ok (.agg #[.string s, .bool false, .slice A n c]) w := run_build w 28 _ _ (by kernel_rfl)
theorem vb_hi (s : ByteArray) (h : Int) (w : World) : (Instr.build 33 #[(0, .string s), (2, .int .i64 h)]).run Tryd.prog w = .ok (.agg #[.string s, .int .i64 0, .int .i64 h, .int .i64 0]) w := run_build w 33 _ _ (by kernel_rfl)
theorem eb_vars (A : Option Addr) (n c : Nat) (w : World) : (Instr.build 37 #[(0, .slice A n c)]).run Tryd.prog w = .ok (.agg #[.slice A n c, .int .i64 0, .int .i64 0, .int .i64 0, .int .i64 0, .slice none 0 0]) w := run_build w 37 _ _ (by kernel_rfl)
/-- A row whose block is known whole. -/
theorem rdk_block {k n c b : Nat} {w : World} {cs : Array Value} {T : TypeId} {fr : Nat × Nat} {xs : List Value} (h : w.heap[b]? = some (.cells cs T fr)) (hx : cs.toList = xs) (hl : xs.length = n * k) (hc : n ≤ c) : Rdk k w (.slice (some ⟨b, 0, none⟩) n c) n xs := by
  refine ⟨_, c, rfl, hc, hl, fun _ => ⟨b, 0, rfl, (Array.getElem?_eq_some_iff.1 h).1, fun j u hj => ?_⟩⟩
  rw [← hx, Array.getElem?_toList] at hj
  simp [World.cell?, h, hj]
theorem acs_upto {W0 : World} {A : Option Addr} {n c k : Nat} {l : List Ac} (h : Acs W0 (.slice A n c) l) (hk : k ≤ n) (h0 : 0 < k) :
    (∀ W, (Instr.slice 31 (.slice A n c) none (some (.int .i64 (k : Int))) none).run Tryd.prog W = .ok (.slice A k c) W) ∧ Acs W0 (.slice A k c) (l.take k) := by
  obtain ⟨ps, hm, ⟨A', c', heq, hc, hl, hA⟩, hx⟩ := h
  cases heq
  obtain ⟨b, off, rfl, hb, hcell⟩ := hA (by omega)
  have hln : (l.take k).length = k := by rw [List.length_take]; omega
  have hpl : ps.length = l.length := by rw [← hm, List.length_map]
  refine ⟨fun W => ?_, ps.take k, by rw [← hm, List.map_take], ⟨_, c, by rw [hln], by omega, by rw [acsV_length, hln, List.length_take]; congr 1; omega, fun _ => ⟨b, off, rfl, hb, fun j u hj => hcell j u ?_⟩⟩, fun p hp => hx p (List.mem_of_mem_take hp)⟩
  · rw [run_slice_h (P := Tryd.prog) W 31 _ l.length c (by rw [show Tryd.prog.elem 31 = 28 by kernel_rfl]; exact Tryd.underlying31) .i64 (k : Int) (by omega) (by omega), show Tryd.prog.elem 31 = 28 by kernel_rfl]
    simp [sliced, Result.andThen, Addr.add]
  · have e : acsV ps = acsV (ps.take k) ++ acsV (ps.drop k) := by rw [acsV_append, List.take_append_drop]
    rw [e, List.getElem?_append_left (List.getElem?_eq_some_iff.1 hj).1]
    exact hj
set_option maxHeartbeats 4000000 in
theorem aawake_any (w : World) (hg : SignsIn w) : Calls Tryd.prog 6 #[] w (RetB w true) := by
  have b1 := tb_one
  have b2 := tb_name
  have b3 := tb_num
  have b4 := act_any
  have b5 := act_set
  have b6 := vb_hi
  have b7 := eb_vars
  obtain ⟨W4, hW4⟩ : ∃ W4, (((w.alloc awTO).alloc (awAO w.heap.size)).alloc awVO).alloc (awEO (w.heap.size + 2)) = W4 := ⟨_, rfl⟩
  have hb4 : Below w.heap.size w W4 := by rw [← hW4]; exact below_two' (KitC.below_pair _ _ _) (KitC.below_pair _ _ _)
  have hk0 : W4.heap[w.heap.size]? = some awTO := by
    rw [← hW4]
    have h1 := heap_alloc_new w awTO
    have h2 := KitC.block_on h1 (KitC.below_one _ (awAO w.heap.size))
    exact KitC.block_on h2 (KitC.below_pair _ _ _)
  have hk1 : W4.heap[w.heap.size + 1]? = some (awAO w.heap.size) := by
    rw [← hW4]
    have h1 := heap_alloc_new (w.alloc awTO) (awAO w.heap.size)
    rw [World.size_alloc] at h1
    exact KitC.block_on h1 (KitC.below_pair _ _ _)
  have hk2 : W4.heap[w.heap.size + 2]? = some awVO := by
    rw [← hW4]
    have h1 := heap_alloc_new ((w.alloc awTO).alloc (awAO w.heap.size)) awVO
    rw [World.size_alloc, World.size_alloc] at h1
    exact KitC.block_on h1 (KitC.below_one _ _)
  have hk3 : W4.heap[w.heap.size + 3]? = some (awEO (w.heap.size + 2)) := by
    rw [← hW4]
    have h1 := heap_alloc_new (((w.alloc awTO).alloc (awAO w.heap.size)).alloc awVO) (awEO (w.heap.size + 2))
    rwa [World.size_alloc, World.size_alloc, World.size_alloc] at h1
  have htm : Tms W4 (.slice (some ⟨w.heap.size, 0, none⟩) 3 3) awT := ⟨3, rfl, rdk_block hk0 rfl rfl (Nat.le_refl _)⟩
  have hac : Acs W4 (.slice (some ⟨w.heap.size + 1, 0, none⟩) 2 2) awL := by
    refine ⟨[⟨⟨⟨#[120]⟩, true, []⟩, none, 0, 0⟩, ⟨⟨⟨#[120]⟩, false, awT⟩, some ⟨w.heap.size, 0, none⟩, 3, 3⟩], rfl, rdk_block hk1 rfl rfl (Nat.le_refl _), fun p hp => ?_⟩
    simp only [List.mem_cons, List.not_mem_nil, or_false] at hp
    rcases hp with rfl | rfl
    · exact ⟨0, rfl, Rdk.nil 3 _⟩
    · exact htm
  have hen : EnvIn W4 (exP (w.heap.size + 2)) awE := ⟨⟨rfl, rdk_block hk2 rfl rfl (Nat.le_refl _)⟩, Rd.nil _, by decide, by decide⟩
  obtain ⟨hup, hac1⟩ := acs_upto (k := 1) hac (by omega) (by omega)
  have HUP := Lib.hid hup
  have HR1 : Hid (∀ W, Below W4.heap.size W4 W → Calls Tryd.prog 8 #[.slice (some ⟨w.heap.size + 1, 0, none⟩) 2 2, awEV (w.heap.size + 2)] W (RetVE W (0, [⟨1, 0, 0, 0⟩]))) := Lib.hid (fun W hW => by
    have := run_any (exP (w.heap.size + 2)) awE (some ⟨w.heap.size + 1, 0, none⟩) 2 2 awL W (hen.keep hW) aw_fit aw_small (by decide) (hac.keep hW)
    rw [aw_run] at this
    exact this)
  have HR2 : Hid (∀ W, Below W4.heap.size W4 W → Calls Tryd.prog 8 #[.slice (some ⟨w.heap.size + 1, 0, none⟩) 1 2, awEV (w.heap.size + 2)] W (RetVE W (0, [⟨0, 0, 0, 0⟩, ⟨1, 0, 0, 0⟩]))) := Lib.hid (fun W hW => by
    have := run_any (exP (w.heap.size + 2)) awE (some ⟨w.heap.size + 1, 0, none⟩) 1 2 (awL.take 1) W (hen.keep hW) aw_fit aw_small1 (by decide) (hac1.keep hW)
    rw [aw_run1] at this
    exact this)
  obtain ⟨P, hP⟩ : ∃ P : ByteArray, P = ⟨#[97, 110, 121, 32, 120, 44, 32, 120, 32, 58, 61, 32, 120, 32, 43, 32, 49]⟩ := ⟨_, rfl⟩
  have HPU : Hid (∀ W, Below W4.heap.size W4 W → Calls Tryd.prog 9 #[.slice (some ⟨w.heap.size + 1, 0, none⟩) 2 2] W (RetPut W P 0)) := Lib.hid (fun W hW => by
    have := (aput_any (some ⟨w.heap.size + 1, 0, none⟩) 2 2 awL aw_small (by decide) W (hac.keep hW) (hg.keep (below_two' hb4 hW))).2 awTs aw_ts aw_ok aw_chk
    rw [aw_text, ← hP] at this
    exact this)
  have HB4 := Lib.hid hb4
  have HK3 := Lib.hid hk3
  have HW4 := Lib.hid hW4
  have HP := Lib.hid hP
  have hsz : w.heap.size + 3 < W4.heap.size := (Array.getElem?_eq_some_iff.1 hk3).1
  clear hW4 hb4 hk0 hk1 hk2 hk3 htm hac hen hup hac1 hP hg
  go_enter Tryd.func6, Tryd.ntmps6
  go_wp2_with (rw [HW4.out]; go_at_call 8; (with_reducible refine (HR1.out _ (Below.refl _ _)).mono ?_))
  rintro e w5 ⟨v5, rfl, hv5, hb5⟩
  obtain ⟨A5, n5, c5, rfl, hn5, hc5⟩ := hv5.shape
  obtain rfl : n5 = 1 := hn5
  have HB5 := Lib.hid hb5
  have HV5 := Lib.hid hv5
  obtain ⟨z0, z1, z2, z3, z4, z5⟩ := cells_6 (KitC.block_on HK3.out hb5)
  have hup := HUP.out
  clear hv5 hb5
  go_wp2_with fail
  go_region_held3 (fun w' => w'.cell? ⟨w.heap.size + 3, 0, none⟩ = some (.slice (some ⟨w.heap.size + 2, 0, none⟩) 1 1) ∧ w'.cell? ⟨w.heap.size + 3, 1, none⟩ = some (.int .i64 0) ∧ w'.cell? ⟨w.heap.size + 3, 2, none⟩ = some (.int .i64 0) ∧ w'.cell? ⟨w.heap.size + 3, 3, none⟩ = some (.int .i64 0) ∧ w'.cell? ⟨w.heap.size + 3, 4, none⟩ = some (.int .i64 0) ∧ w'.cell? ⟨w.heap.size + 3, 5, none⟩ = some (.slice none 0 0)) (go_keep)
    ((go_at_call 8; refine (HR2.out _ (HB5.out.drew)).mono ?_; rintro e w6 ⟨v6, rfl, hv6, hb6'⟩; have hb6 := undrew hb6'; clear hb6'; have HB6 := Lib.hid (below_two' HB5.out hb6); have HV65 := Lib.hid (HV5.out.keep hb6); have HV6 := Lib.hid hv6; obtain ⟨A6, n6, c6, rfl, hn6, hc6⟩ := hv6.shape; clear hv6; obtain ⟨q0, q1, q2, q3, q4, q5⟩ := cells_6 (KitC.block_on HK3.out HB6.out); clear hb6))
  obtain rfl : n6 = 2 := hn6
  clear hup z0 z1 z2 z3 z4 z5 q0 q1 q2 q3 q4 q5
  go_wp2_with (go_at_call 9; (with_reducible refine (HPU.out _ HB6.out).mono ?_))
  rintro e w7 ⟨rfl, hb7⟩
  have HB7 := Lib.hid (below_two' HB6.out hb7)
  obtain ⟨b5, o5, rfl, _, a0, a1, a2, a3⟩ := (HV65.out.keep hb7).at_ (i := 0) rfl
  obtain ⟨b6, o6, rfl, _, d0, d1, d2, d3⟩ := (HV6.out.keep hb7).at_ (i := 0) rfl
  obtain ⟨b6', o6', heq, _, f0, f1, f2, f3⟩ := (HV6.out.keep hb7).at_ (i := 1) rfl
  cases heq
  have HL : Hid (∀ d os, Calls Tryd.prog 4 #[v4A ⟨0, 0, 0, 0⟩, v4A ⟨1, 0, 0, 0⟩] (grow (redrawn w7 d) os) fun e w'' => e = .returned (.bool true) ∧ ∃ p : Regrown, w'' = grow (redrawn w7 p.d) p.os) := Lib.hid (fun d os => Calls.regrown_of (less_any ⟨0, 0, 0, 0⟩ ⟨1, 0, 0, 0⟩ _))
  simp only [Nat.zero_mul, Nat.add_zero, Nat.one_mul] at a0 d0 d1 d2 d3 f0 f1 f2 f3
  have ra0 := cell_regrown a0
  have rd0 := cell_regrown d0
  have rd1 := cell_regrown d1
  have rd2 := cell_regrown d2
  have rd3 := cell_regrown d3
  have rf0 := cell_regrown f0
  have rf1 := cell_regrown f1
  have rf2 := cell_regrown f2
  have rf3 := cell_regrown f3
  have g1 : (P.toList == (⟨#[97, 110, 121, 32, 120, 44, 32, 120, 32, 58, 61, 32, 120, 32, 43, 32, 49]⟩ : ByteArray).toList) = true := by rw [HP.out]; simp
  clear hb7 b1 b2 b3 b4 b7 a0 a1 a2 a3 d0 d1 d2 d3 f0 f1 f2 f3
  go_wp2_with fail
  refine wp_region_quiet_below (by kernel_rfl) (by kernel_rfl) ?_
  repeat (go_big_quiet_step (exact HL.out _ _))
  refine wpQuiet_nil ?_
  intro _ hw'
  obtain ⟨⟨dq, osq⟩, hw''⟩ := hw'
  subst hw''
  simp only
  have HBZ := Lib.hid (below_two' (below_two' HB4.out HB7.out) (below_regrown w7 dq osq))
  go_wp2_with fail
  go_ret
  exact ⟨ret_bool (by rw [HP.out]; kernel_rfl), HBZ.out⟩
end Go.Proofs.YtcfcpbkeedfbpaaDoor

namespace Go.Proofs.YtcfcpbkeedfbpaaDoor
open Go.RowKit Go.Sort TermSpec EvalSpec ActSpec NamesSpec ExprSpec
set_option maxRecDepth 100000

theorem less_ways (x y : V4) : (lessV x y = false ∧ lessV y x = false ∧ decide (x = y) = true) ∨ (lessV x y = true ∧ lessV y x = false ∧ decide (x = y) = false) ∨ (lessV x y = false ∧ lessV y x = true ∧ decide (x = y) = false) := by
  by_cases h : x = y
  · subst h
    exact .inl ⟨lessV_irr x, lessV_irr x, by simp⟩
  · rcases lessV_tri h with h1 | h1
    · exact .inr (.inl ⟨h1, lessV_anti h1, by simpa using h⟩)
    · exact .inr (.inr ⟨lessV_anti h1, h1, by simpa using h⟩)
set_option maxRecDepth 100000 in
set_option maxHeartbeats 8000000 in
theorem walk_ActLess (x y : V4) (w : World) (hg : SignsIn w) (_ : True) (_ : True) :
    Calls Tryd.prog 3 #[v4A x, v4A y] w fun e w' => e = .returned (.bool true) ∧ Below w.heap.size w w' := by
  have hb := KitC.below_pair w (v4O x) (v4O y)
  obtain ⟨k1, k2, _, _⟩ := KitC.pair_blocks (Below.refl ((w.alloc (v4O x)).alloc (v4O y)).heap.size ((w.alloc (v4O x)).alloc (v4O y)))
  obtain ⟨W, hW⟩ : ∃ W, (w.alloc (v4O x)).alloc (v4O y) = W := ⟨_, rfl⟩
  rw [hW] at hb k1 k2
  obtain ⟨b1, b2, b3, HC, h1, h2, h3⟩ : ∃ b1 b2 b3 : Bool, ((b1 = false ∧ b2 = false ∧ b3 = true) ∨ (b1 = true ∧ b2 = false ∧ b3 = false) ∨ (b1 = false ∧ b2 = true ∧ b3 = false)) ∧ lessV x y = b1 ∧ lessV y x = b2 ∧ decide (x = y) = b3 := ⟨_, _, _, less_ways x y, rfl, rfl, rfl⟩
  have HL1 : Hid (∀ d os, Calls Tryd.prog 4 #[v4A x, v4A y] (grow (redrawn W d) os) fun e w'' => e = .returned (.bool b1) ∧ ∃ p : Regrown, w'' = grow (redrawn W p.d) p.os) := Lib.hid (fun d os => Calls.regrown_of (by have := less_any x y (grow (redrawn W d) os); rwa [h1] at this))
  have HL2 : Hid (∀ d os, Calls Tryd.prog 4 #[v4A y, v4A x] (grow (redrawn W d) os) fun e w'' => e = .returned (.bool b2) ∧ ∃ p : Regrown, w'' = grow (redrawn W p.d) p.os) := Lib.hid (fun d os => Calls.regrown_of (by have := less_any y x (grow (redrawn W d) os); rwa [h2] at this))
  have HR1 : Hid (∀ d os, Calls Tryd.prog 5 #[v4A x, v4A y] (grow (redrawn W d) os) fun e w'' => e = .returned (.bool b1) ∧ ∃ p : Regrown, w'' = grow (redrawn W p.d) p.os) := Lib.hid (fun d os => Calls.regrown_of (by have := rless_any x y (grow (redrawn W d) os); rwa [h1] at this))
  have HAW : Hid (∀ d os, Calls Tryd.prog 6 #[] (grow (redrawn W d) os) fun e w'' => e = .returned (.bool true) ∧ ∃ p : Regrown, w'' = grow (redrawn W p.d) p.os) := Lib.hid (fun d os => Calls.regrown_of (aawake_any _ (hg.keep (below_two' hb (below_regrown W d os)))))
  have heq : ∀ w, (Op.equalIn 10000 22 (v4A x) (v4A y)).run Tryd.prog w = .ok b3 w := fun w => by rw [← h3]; exact eq_v4 x y w
  obtain ⟨x0, x1, x2, x3⟩ := x
  obtain ⟨y0, y1, y2, y3⟩ := y
  obtain ⟨c0, c1, c2, c3⟩ := cells_4 k1
  obtain ⟨d0, d1, d2, d3⟩ := cells_4 k2
  have rc0 := cell_regrown c0
  have rc1 := cell_regrown c1
  have rc2 := cell_regrown c2
  have rc3 := cell_regrown c3
  have rd0 := cell_regrown d0
  have rd1 := cell_regrown d1
  have rd2 := cell_regrown d2
  have rd3 := cell_regrown d3
  have HW := Lib.hid hW
  have HB := Lib.hid hb
  clear h1 h2 h3 hg k1 k2 c0 c1 c2 c3 d0 d1 d2 d3 hW hb
  rcases HC with ⟨rfl, rfl, rfl⟩ | ⟨rfl, rfl, rfl⟩ | ⟨rfl, rfl, rfl⟩
  all_goals
    go_enter Tryd.func3, Tryd.ntmps3
    go_wp2_with fail
    rw [HW.out]
    refine wp_region_quiet_below (by kernel_rfl) (by kernel_rfl) ?_
    repeat (go_big_quiet_step (first | exact HL1.out _ _ | exact HL2.out _ _ | exact HR1.out _ _ | exact HAW.out _ _))
    refine wpQuiet_nil ?_
    intro _ hw'
    obtain ⟨⟨dq, osq⟩, hw''⟩ := hw'
    subst hw''
    simp only
    have HBZ := Lib.hid (below_two' HB.out (below_regrown W dq osq))
    go_wp2_with fail
    go_ret
    exact ⟨rfl, HBZ.out⟩
end Go.Proofs.YtcfcpbkeedfbpaaDoor

namespace Go.Proofs.YtcfcpbkeedfbpaaDoor
namespace ScanSpec

def isLow (c : UInt8) : Bool := decide (97 ≤ (c.toNat : Int)) && decide ((c.toNat : Int) ≤ 122)
def isDig (c : UInt8) : Bool := decide (48 ≤ (c.toNat : Int)) && decide ((c.toNat : Int) ≤ 57)
def isBlank (c : UInt8) : Bool := (c.toNat == 32 || c.toNat == 9) || c.toNat == 10 || c.toNat == 13
/-- What a byte is: 1 a letter, 2 a digit, 3 a low line, 4 a blank, 5 what begins a remark, 0 another one. -/
def clsB (c : UInt8) : Int := if isLow c then 1 else if isDig c then 2 else if c.toNat = 95 then 3 else if isBlank c then 4 else if c.toNat = 35 then 5 else 0
def cls (l : List UInt8) (i : Nat) : Int := match l[i]? with | some c => clsB c | none => 0

/-- How many bytes are no token's: blanks and remarks (the first: within a remark). -/
def gapRun : Bool → List UInt8 → Nat
  | _, [] => 0
  | false, c :: t => if clsB c = 4 then gapRun false t + 1 else if clsB c = 5 then gapRun true t + 1 else 0
  | true, c :: t => if c.toNat = 10 then gapRun false t + 1 else gapRun true t + 1
def gap (l : List UInt8) (i : Nat) : Nat := i + gapRun false (l.drop i)

/-- How many bytes in a row are such. -/
def run (p : UInt8 → Bool) : List UInt8 → Nat
  | [] => 0
  | c :: t => if p c then run p t + 1 else 0
def isWord (c : UInt8) : Bool := decide (1 ≤ clsB c) && decide (clsB c ≤ 3)
def isNum (c : UInt8) : Bool := decide (clsB c = 2)

def marks : List (List UInt8) := [[45, 62], [58, 61], [60, 61], [62, 61], [33, 61], [61, 61], [46, 46], [123], [125], [91], [93], [40], [41], [44], [59], [61], [60], [62], [43], [45], [42], [47]]
def marksS : List ByteArray := [⟨#[45, 62]⟩, ⟨#[58, 61]⟩, ⟨#[60, 61]⟩, ⟨#[62, 61]⟩, ⟨#[33, 61]⟩, ⟨#[61, 61]⟩, ⟨#[46, 46]⟩, ⟨#[123]⟩, ⟨#[125]⟩, ⟨#[91]⟩, ⟨#[93]⟩, ⟨#[40]⟩, ⟨#[41]⟩, ⟨#[44]⟩, ⟨#[59]⟩, ⟨#[61]⟩, ⟨#[60]⟩, ⟨#[62]⟩, ⟨#[43]⟩, ⟨#[45]⟩, ⟨#[42]⟩, ⟨#[47]⟩]
def markLen (d : List UInt8) : Nat := match marks.find? fun m => m.isPrefixOf d with | some m => m.length | none => 0

/-- The token at the head of a text: its kind and length, what is told. -/
def one (d : List UInt8) : Int × Nat × Int :=
  if cls d 0 = 1 then (if 12 < run isWord d then (0, 0, 5) else (1, run isWord d, 0))
  else if cls d 0 = 2 then (if cls d (run isNum d) = 1 ∨ cls d (run isNum d) = 3 then (0, 0, 2) else if 9 < run isNum d then (0, 0, 5) else (2, run isNum d, 0))
  else if markLen d = 0 then (0, 0, 2) else (3, markLen d, 0)

/-- The line and the byte of a place. -/
def posGo : List UInt8 → Int × Int → Int × Int
  | [], p => p
  | c :: t, p => posGo t (if c.toNat = 10 then (p.1 + 1, 1) else (p.1, p.2 + 1))
def pos (l : List UInt8) (i : Nat) : Int × Int := posGo (l.take i) (1, 1)

theorem posGo_snoc (l : List UInt8) (c : UInt8) (p : Int × Int) : posGo (l ++ [c]) p = (if c.toNat = 10 then ((posGo l p).1 + 1, 1) else ((posGo l p).1, (posGo l p).2 + 1)) := by
  induction l generalizing p with
  | nil => rfl
  | cons a t ih => simp only [List.cons_append, posGo, ih]
theorem pos_next {l : List UInt8} {i : Nat} {c : UInt8} (h : l[i]? = some c) : pos l (i + 1) = (if c.toNat = 10 then ((pos l i).1 + 1, 1) else ((pos l i).1, (pos l i).2 + 1)) := by
  unfold pos; rw [take_next h, posGo_snoc]
theorem posGo_bd (l : List UInt8) (p : Int × Int) (h1 : 1 ≤ p.1) (h2 : 1 ≤ p.2) : 1 ≤ (posGo l p).1 ∧ (posGo l p).1 ≤ p.1 + l.length ∧ 1 ≤ (posGo l p).2 ∧ (posGo l p).2 ≤ p.2 + l.length := by
  induction l generalizing p with
  | nil => simp [posGo]; omega
  | cons a t ih =>
    simp only [posGo, List.length_cons]
    split
    · have := ih (p.1 + 1, 1) (by simp; omega) (by simp)
      simp at this ⊢; omega
    · have := ih (p.1, p.2 + 1) (by simp; omega) (by simp; omega)
      simp at this ⊢; omega
theorem pos_bd (l : List UInt8) (i : Nat) : 1 ≤ (pos l i).1 ∧ (pos l i).1 ≤ 1 + i ∧ 1 ≤ (pos l i).2 ∧ (pos l i).2 ≤ 1 + i := by
  have := posGo_bd (l.take i) (1, 1) (by simp) (by simp)
  have h := List.length_take_le i l
  unfold pos
  simp at this
  omega

theorem cls_some {l : List UInt8} {i : Nat} {c : UInt8} (h : l[i]? = some c) : cls l i = clsB c := by unfold cls; rw [h]
theorem cls_none {l : List UInt8} {i : Nat} (h : l.length ≤ i) : cls l i = 0 := by unfold cls; rw [List.getElem?_eq_none_iff.2 h]
theorem clsB_bd (c : UInt8) : 0 ≤ clsB c ∧ clsB c ≤ 5 := by unfold clsB; repeat' split; all_goals omega
theorem cls_bd (l : List UInt8) (i : Nat) : 0 ≤ cls l i ∧ cls l i ≤ 5 := by
  unfold cls; split
  · exact clsB_bd _
  · omega
theorem cls_drop (l : List UInt8) (i j : Nat) : cls (l.drop i) j = cls l (i + j) := by unfold cls; rw [List.getElem?_drop]
theorem drop_next {l : List UInt8} {i : Nat} {c : UInt8} (h : l[i]? = some c) : l.drop i = c :: l.drop (i + 1) := by
  have hi := get_lt h
  rw [List.drop_eq_getElem_cons hi]
  congr 1
  rw [List.getElem?_eq_getElem hi] at h
  injection h
theorem drop_end {l : List UInt8} {i : Nat} (h : l.length ≤ i) : l.drop i = [] := List.drop_eq_nil_of_le h
theorem clsB_35 {c : UInt8} (h : clsB c = 5) : c.toNat = 35 := by
  unfold clsB at h
  split at h
  · simp at h
  · split at h
    · simp at h
    · split at h
      · simp at h
      · split at h
        · simp at h
        · split at h
          · assumption
          · simp at h
theorem clsB_10 {c : UInt8} (h : c.toNat = 10) : clsB c = 4 := by
  unfold clsB isLow isDig isBlank
  rw [h]; rfl

theorem gap_blank {l : List UInt8} {i : Nat} (h : cls l i = 4) : gap l (i + 1) = gap l i := by
  unfold cls at h
  split at h
  · rename_i c hc
    unfold gap
    rw [drop_next hc, gapRun, if_pos h]; omega
  · simp at h
/-- From within a remark on. -/
def rem (l : List UInt8) (i : Nat) : Nat := i + gapRun true (l.drop i)
theorem gap_remark {l : List UInt8} {i : Nat} (h : cls l i = 5) : rem l i = gap l i := by
  unfold cls at h
  split at h
  · rename_i c hc
    unfold gap rem
    rw [drop_next hc, gapRun, gapRun, if_neg (by rw [clsB_35 h]; decide), if_neg (by rw [h]; decide), if_pos h]
  · simp at h
theorem rem_next {l : List UInt8} {i : Nat} {c : UInt8} (hc : l[i]? = some c) (h : ¬ c.toNat = 10) : rem l (i + 1) = rem l i := by
  unfold rem
  rw [drop_next hc, gapRun, if_neg h]; omega
theorem rem_line {l : List UInt8} {i : Nat} {c : UInt8} (hc : l[i]? = some c) (h : c.toNat = 10) : rem l i = gap l i := by
  unfold rem gap
  rw [drop_next hc, gapRun, gapRun, if_pos h, if_pos (clsB_10 h)]
theorem rem_end {l : List UInt8} {i : Nat} (h : l.length ≤ i) : rem l i = gap l i := by
  unfold rem gap
  rw [drop_end h]; rfl
theorem gap_stop {l : List UInt8} {i : Nat} (h4 : ¬ cls l i = 4) (h5 : ¬ cls l i = 5) : gap l i = i := by
  unfold gap
  rcases hc : l[i]? with _ | c
  · rw [drop_end (List.getElem?_eq_none_iff.1 hc)]; rfl
  · rw [cls_some hc] at h4 h5
    rw [drop_next hc, gapRun, if_neg h4, if_neg h5]; rfl
theorem gapRun_le (b : Bool) (l : List UInt8) : gapRun b l ≤ l.length := by
  induction l generalizing b with
  | nil => cases b <;> simp [gapRun]
  | cons c t ih =>
    have h1 := ih false
    have h2 := ih true
    cases b <;> simp only [gapRun, List.length_cons] <;> repeat' split
    all_goals omega
theorem gap_bd {l : List UInt8} {i : Nat} (h : i ≤ l.length) : i ≤ gap l i ∧ gap l i ≤ l.length := by
  have := gapRun_le false (l.drop i)
  rw [List.length_drop] at this
  unfold gap; omega

theorem run_next {p : UInt8 → Bool} {l : List UInt8} {i : Nat} {c : UInt8} (hc : l[i]? = some c) (h : p c = true) : i + 1 + run p (l.drop (i + 1)) = i + run p (l.drop i) := by
  rw [drop_next hc, run, if_pos h]; omega
theorem run_stop {p : UInt8 → Bool} {l : List UInt8} {i : Nat} (h : ∀ c, l[i]? = some c → p c = false) : run p (l.drop i) = 0 := by
  rcases hc : l[i]? with _ | c
  · rw [drop_end (List.getElem?_eq_none_iff.1 hc)]; rfl
  · rw [drop_next hc, run, if_neg (by rw [h c hc]; simp)]
theorem run_le (p : UInt8 → Bool) (l : List UInt8) : run p l ≤ l.length := by
  induction l with
  | nil => simp [run]
  | cons c t ih => simp only [run, List.length_cons]; split <;> omega
theorem run_pos {p : UInt8 → Bool} {l : List UInt8} {i : Nat} {c : UInt8} (hc : l[i]? = some c) (h : p c = true) : 0 < run p (l.drop i) := by
  rw [drop_next hc, run, if_pos h]; omega
theorem isWord_cls {l : List UInt8} {i : Nat} (h1 : 1 ≤ cls l i) (h3 : cls l i ≤ 3) : ∃ c, l[i]? = some c ∧ isWord c = true := by
  unfold cls at h1 h3
  split at h1
  · rename_i c hc
    refine ⟨c, hc, ?_⟩
    rw [hc] at h3
    simp [isWord, h1, h3]
  · omega
theorem isWord_no {l : List UInt8} {i : Nat} (h : ¬ (1 ≤ cls l i ∧ cls l i ≤ 3)) : ∀ c, l[i]? = some c → isWord c = false := by
  intro c hc
  rw [cls_some hc] at h
  simp only [isWord, Bool.and_eq_false_iff, decide_eq_false_iff_not]
  omega
theorem isNum_cls {l : List UInt8} {i : Nat} (h : cls l i = 2) : ∃ c, l[i]? = some c ∧ isNum c = true := by
  unfold cls at h
  split at h
  · rename_i c hc
    exact ⟨c, hc, by simp [isNum, h]⟩
  · simp at h
theorem isNum_no {l : List UInt8} {i : Nat} (h : ¬ cls l i = 2) : ∀ c, l[i]? = some c → isNum c = false := by
  intro c hc
  rw [cls_some hc] at h
  simp [isNum, h]

/-- A token: its kind, where it begins, its length. -/
structure Tok where
  kind : Int
  at_ : Nat
  len : Nat
/-- All tokens from a place on, behind those that are there already; or where a fault is, and which. -/
def scanGo (l : List UInt8) : Nat → Nat → List Tok → List Tok × Nat × Int
  | 0, i, acc => (acc ++ [⟨0, i, 0⟩], 0, 0)
  | f + 1, i, acc =>
    if l.length ≤ i then (acc ++ [⟨0, i, 0⟩], 0, 0)
    else
      let t := one (l.drop i)
      if t.2.2 ≠ 0 then ([], i, t.2.2)
      else if acc.length = 4000 then ([], i, 8)
      else scanGo l f (gap l (i + t.2.1)) (acc ++ [⟨t.1, i, t.2.1⟩])
def scan (l : List UInt8) : List Tok × Nat × Int := scanGo l l.length (gap l 0) []
end ScanSpec
end Go.Proofs.YtcfcpbkeedfbpaaDoor

namespace Go.Proofs.YtcfcpbkeedfbpaaDoor
open Go.RowKit ScanSpec

theorem byte_at' (s : ByteArray) (i : Nat) (h : i < s.size) : s.data.toList[i]? = some s[i] := by
  rw [List.getElem?_eq_getElem (by simpa using h)]; rfl
theorem size_list' (s : ByteArray) : s.data.toList.length = s.size := rfl

theorem clsB_val (c : UInt8) (n : Int) (hn : n = (c.toNat : Int)) : (97 ≤ n ∧ n ≤ 122 ∧ clsB c = 1) ∨ (48 ≤ n ∧ n ≤ 57 ∧ clsB c = 2) ∨ (n = 95 ∧ clsB c = 3) ∨ ((n = 32 ∨ n = 9 ∨ n = 10 ∨ n = 13) ∧ clsB c = 4) ∨ (n = 35 ∧ clsB c = 5) ∨
    ((n < 48 ∨ (57 < n ∧ n < 97) ∨ 122 < n) ∧ n ≠ 95 ∧ n ≠ 32 ∧ n ≠ 9 ∧ n ≠ 10 ∧ n ≠ 13 ∧ n ≠ 35 ∧ clsB c = 0) := by
  unfold clsB isLow isDig isBlank
  simp only [← hn, Bool.and_eq_true, Bool.or_eq_true, decide_eq_true_eq, beq_iff_eq]
  by_cases h1 : 97 ≤ n ∧ n ≤ 122
  · exact .inl ⟨h1.1, h1.2, by rw [if_pos h1]⟩
  · rw [if_neg h1]
    by_cases h2 : 48 ≤ n ∧ n ≤ 57
    · exact .inr (.inl ⟨h2.1, h2.2, by rw [if_pos h2]⟩)
    · rw [if_neg h2]
      by_cases h3 : c.toNat = 95
      · exact .inr (.inr (.inl ⟨by omega, by rw [if_pos h3]⟩))
      · rw [if_neg h3]
        by_cases h4 : ((c.toNat = 32 ∨ c.toNat = 9) ∨ c.toNat = 10) ∨ c.toNat = 13
        · exact .inr (.inr (.inr (.inl ⟨by omega, by rw [if_pos h4]⟩)))
        · rw [if_neg h4]
          by_cases h5 : c.toNat = 35
          · exact .inr (.inr (.inr (.inr (.inl ⟨by omega, by rw [if_pos h5]⟩))))
          · exact .inr (.inr (.inr (.inr (.inr ⟨by omega, by omega, by omega, by omega, by omega, by omega, by omega, by rw [if_neg h5]⟩))))

def GapRel (s : ByteArray) (G : Nat) (v : Value) : Prop := ∃ k : Nat, k ≤ s.size ∧ v = .int .i64 k ∧ gap s.data.toList k = G
def RemRel (s : ByteArray) (k0 G : Nat) (v : Value) : Prop := ∃ k : Nat, k0 ≤ k ∧ k ≤ s.size ∧ v = .int .i64 k ∧ rem s.data.toList k = G

end Go.Proofs.YtcfcpbkeedfbpaaDoor

namespace Go.Proofs.YtcfcpbkeedfbpaaDoor
open Go.RowKit ScanSpec Go.BigFrame

/-- What One answers of the token at a place. -/
def oneE (l : List UInt8) (i : Nat) : Int × Int × Int := if (ScanSpec.one (l.drop i)).2.2 = 0 then ((ScanSpec.one (l.drop i)).1, ((i + (ScanSpec.one (l.drop i)).2.1 : Nat) : Int), 0) else (0, 0, (ScanSpec.one (l.drop i)).2.2)

theorem oneE_err {l : List UInt8} {i : Nat} {x : Int} (h : ScanSpec.one (l.drop i) = (0, 0, x)) (hx : x ≠ 0) : oneE l i = (0, 0, x) := by
  unfold oneE; rw [h, if_neg hx]
theorem oneE_ok {l : List UInt8} {i n : Nat} {x : Int} (h : ScanSpec.one (l.drop i) = (x, n, 0)) : oneE l i = (x, ((i + n : Nat) : Int), 0) := by
  unfold oneE; rw [h, if_pos rfl]
theorem ret_one {l : List UInt8} {i : Nat} {a b c : Int} (h : oneE l i = (a, b, c)) : Ending.returned (.tuple #[.int .i64 a, .int .i64 b, .int .i64 c]) = .returned (.tuple #[.int .i64 (oneE l i).1, .int .i64 (oneE l i).2.1, .int .i64 (oneE l i).2.2]) := by rw [h]
theorem one_name {l : List UInt8} {i : Nat} (h : cls l i = 1) : ScanSpec.one (l.drop i) = if 12 < run isWord (l.drop i) then (0, 0, 5) else (1, run isWord (l.drop i), 0) := by
  unfold ScanSpec.one; rw [cls_drop, Nat.add_zero, if_pos h]
theorem one_num {l : List UInt8} {i : Nat} (h : cls l i = 2) : ScanSpec.one (l.drop i) = if cls l (i + run isNum (l.drop i)) = 1 ∨ cls l (i + run isNum (l.drop i)) = 3 then (0, 0, 2) else if 9 < run isNum (l.drop i) then (0, 0, 5) else (2, run isNum (l.drop i), 0) := by
  unfold ScanSpec.one; rw [cls_drop, Nat.add_zero, if_neg (by rw [h]; decide), if_pos h, cls_drop]
theorem one_mark {l : List UInt8} {i : Nat} (h1 : ¬ cls l i = 1) (h2 : ¬ cls l i = 2) : ScanSpec.one (l.drop i) = if markLen (l.drop i) = 0 then (0, 0, 2) else (3, markLen (l.drop i), 0) := by
  unfold ScanSpec.one; rw [cls_drop, Nat.add_zero, if_neg h1, if_neg h2]

theorem find_hit {α : Type} {p : α → Bool} : ∀ {l : List α} {j : Nat} {x : α}, l[j]? = some x → (∀ y ∈ l.take j, p y = false) → p x = true → l.find? p = some x
  | [], _, _, h, _, _ => by simp at h
  | a :: t, 0, x, h, _, hx => by
    simp at h; subst h; simp [hx]
  | a :: t, j + 1, x, h, hn, hx => by
    have ha : p a = false := hn a (by simp)
    rw [List.find?_cons, ha]
    exact find_hit (j := j) (by simpa using h) (fun y hy => hn y (by simp [hy])) hx
theorem mark_hit {d : List UInt8} {j : Nat} {m : List UInt8} (h : marks[j]? = some m) (hn : ∀ y ∈ marks.take j, y.isPrefixOf d = false) (hm : m.isPrefixOf d = true) : markLen d = m.length := by
  unfold markLen; rw [find_hit (p := fun m => m.isPrefixOf d) h hn hm]
theorem mark_none {d : List UInt8} (h : ∀ y ∈ marks, y.isPrefixOf d = false) : markLen d = 0 := by
  unfold markLen
  rw [List.find?_eq_none.2 (fun y hy => by rw [h y hy]; simp)]
theorem marks_len : ∀ y ∈ marks, 1 ≤ y.length ∧ y.length ≤ 2 := by decide
theorem marks_map : marksS.map (·.data.toList) = marks := by decide
theorem marks_get {j : Nat} {m : ByteArray} (h : marksS[j]? = some m) : marks[j]? = some m.data.toList := by
  rw [← marks_map, List.getElem?_map, h]; rfl
theorem marks_size {j : Nat} {m : ByteArray} (h : marksS[j]? = some m) : 1 ≤ m.size ∧ m.size ≤ 2 := marks_len _ (List.mem_of_getElem? (marks_get h))

theorem prefix_iff (s : ByteArray) (i : Nat) (m : ByteArray) : (m.data.toList.isPrefixOf (s.data.toList.drop i) = true) ↔ (i + m.size ≤ s.size ∨ m.size = 0) ∧ (s.extract i (i + m.size)) = m := by
  rw [List.isPrefixOf_iff_prefix]
  have e : (s.extract i (i + m.size)).data.toList = (s.data.toList.drop i).take m.size := by
    rw [ByteArray.data_extract, Array.toList_extract, List.extract_eq_take_drop]
    congr 1; omega
  constructor
  · intro h
    have hl := h.length_le
    rw [List.length_drop, size_list', size_list'] at hl
    refine ⟨by omega, ByteArray.ext (Array.toList_inj.mp ?_)⟩
    rw [e, ← size_list' m, ← List.prefix_iff_eq_take.1 h]
  · rintro ⟨_, h⟩
    rw [List.prefix_iff_eq_take, size_list' m, ← e, h]

def RunRel (s : ByteArray) (p : UInt8 → Bool) (i E : Nat) (v : Value) : Prop := ∃ k : Nat, i ≤ k ∧ k ≤ s.size ∧ v = .int .i64 k ∧ k + run p (s.data.toList.drop k) = E
def OnePost (s : ByteArray) (i : Nat) (w : World) (e : Ending) (w' : World) : Prop :=
  e = .returned (.tuple #[.int .i64 (oneE s.data.toList i).1, .int .i64 (oneE s.data.toList i).2.1, .int .i64 (oneE s.data.toList i).2.2]) ∧ Below w.heap.size w w'

def MarkRel (W : World) (d : List UInt8) (v : Value) (w : World) : Prop := ∃ j : Nat, j ≤ 22 ∧ v = .int .i64 j ∧ (∀ y ∈ marks.take j, y.isPrefixOf d = false) ∧ Below W.heap.size W w
end Go.Proofs.YtcfcpbkeedfbpaaDoor

namespace Go.Proofs.YtcfcpbkeedfbpaaDoor
open Go.RowKit ScanSpec

/-- A token's cells. -/
def tokV (s : ByteArray) (t : Tok) : List Value := [.int .i64 t.kind, .string (s.extract t.at_ (t.at_ + t.len)), .int .i64 (pos s.data.toList t.at_).1, .int .i64 (pos s.data.toList t.at_).2]
def toksV (s : ByteArray) (l : List Tok) : List Value := l.flatMap (tokV s)
theorem tokV_length (s : ByteArray) (t : Tok) : (tokV s t).length = 4 := rfl
/-- A token's cells, by its two ends. -/
def tokC (s : ByteArray) (kd : Int) (i k : Nat) : List Value := [.int .i64 kd, .string (s.extract i k), .int .i64 (pos s.data.toList i).1, .int .i64 (pos s.data.toList i).2]
theorem tokC_one (s : ByteArray) (kd : Int) (i k : Nat) : ∀ u ∈ tokC s kd i k, u.oneCell' = true := by simp [tokC, Value.oneCell']
theorem tokC_eq {s : ByteArray} {kd : Int} {i ln k : Nat} (h : k = i + ln) : tokC s kd i k = tokV s ⟨kd, i, ln⟩ := by subst h; rfl
theorem toksV_length (s : ByteArray) (l : List Tok) : (toksV s l).length = l.length * 4 := flat_length (tokV_length s) l
theorem toksV_snoc (s : ByteArray) (l : List Tok) (t : Tok) : toksV s l ++ tokV s t = toksV s (l ++ [t]) := by simp [toksV]
theorem tokV_one (s : ByteArray) (t : Tok) : ∀ u ∈ tokV s t, u.oneCell' = true := by simp [tokV, Value.oneCell']

/-- All tokens of a text, or where its first fault is, and which. -/
def scanT (l : List UInt8) : List Tok × Nat × Int := if 65536 < l.length then ([], 0, 5) else scan l

theorem one_bd (d : List UInt8) (hd : 0 < d.length) : ((ScanSpec.one d).2.2 = 0 → 1 ≤ (ScanSpec.one d).2.1 ∧ (ScanSpec.one d).2.1 ≤ d.length) ∧ ((ScanSpec.one d).2.2 = 0 ∨ (ScanSpec.one d).2.2 = 2 ∨ (ScanSpec.one d).2.2 = 5) ∧ (0 ≤ (ScanSpec.one d).1 ∧ (ScanSpec.one d).1 ≤ 3) := by
  obtain ⟨c, hc⟩ : ∃ c, d[0]? = some c := get_some hd
  have hd0 : d.drop 0 = d := rfl
  have hml : markLen d ≤ d.length := by
    unfold markLen
    cases hf : marks.find? fun m => m.isPrefixOf d with
    | none => simp
    | some m =>
      have := List.find?_some hf
      rw [List.isPrefixOf_iff_prefix] at this
      exact this.length_le
  unfold ScanSpec.one
  split
  · rename_i h1
    have hp : 0 < run isWord d := by
      have := run_pos (p := isWord) (l := d) (i := 0) hc (by rw [cls_some hc] at h1; simp [isWord, h1])
      rwa [hd0] at this
    have := run_le isWord d
    split <;> simp <;> omega
  · split
    · rename_i h1 h2
      have hp : 0 < run isNum d := by
        have := run_pos (p := isNum) (l := d) (i := 0) hc (by rw [cls_some hc] at h2; simp [isNum, h2])
        rwa [hd0] at this
      have := run_le isNum d
      split
      · simp
      · split <;> simp <;> omega
    · split <;> simp <;> omega

theorem scanGo_end {l : List UInt8} {f i : Nat} {acc : List Tok} (h : l.length ≤ i) : scanGo l f i acc = (acc ++ [⟨0, i, 0⟩], 0, 0) := by
  cases f with
  | zero => rfl
  | succ f => rw [scanGo, if_pos h]
theorem scanGo_err {l : List UInt8} {f i : Nat} {acc : List Tok} (h : i < l.length) (he : (ScanSpec.one (l.drop i)).2.2 ≠ 0) : scanGo l (f + 1) i acc = ([], i, (ScanSpec.one (l.drop i)).2.2) := by
  rw [scanGo, if_neg (by omega)]
  simp only [if_pos he]
theorem scanGo_full {l : List UInt8} {f i : Nat} {acc : List Tok} (h : i < l.length) (he : (ScanSpec.one (l.drop i)).2.2 = 0) (hf : acc.length = 4000) : scanGo l (f + 1) i acc = ([], i, 8) := by
  rw [scanGo, if_neg (by omega)]
  simp [he, hf]
theorem scanGo_next {l : List UInt8} {f i : Nat} {acc : List Tok} (h : i < l.length) (he : (ScanSpec.one (l.drop i)).2.2 = 0) (hf : acc.length ≠ 4000) :
    scanGo l (f + 1) i acc = scanGo l f (gap l (i + (ScanSpec.one (l.drop i)).2.1)) (acc ++ [⟨(ScanSpec.one (l.drop i)).1, i, (ScanSpec.one (l.drop i)).2.1⟩]) := by
  rw [scanGo, if_neg (by omega)]
  simp [he, hf]

/-- What Tokens leaves. -/
def TokPost (W : World) (s : ByteArray) (e : Ending) (w' : World) : Prop :=
  Below W.heap.size W w' ∧
  ((scanT s.data.toList).2.2 ≠ 0 → e = .returned (.tuple #[.slice none 0 0, .agg #[.int .i64 (pos s.data.toList (scanT s.data.toList).2.1).1, .int .i64 (pos s.data.toList (scanT s.data.toList).2.1).2], .int .i64 (scanT s.data.toList).2.2])) ∧
  ((scanT s.data.toList).2.2 = 0 → ∃ v, e = .returned (.tuple #[v, .agg #[.int .i64 0, .int .i64 0], .int .i64 0]) ∧ Rdk 4 w' v (scanT s.data.toList).1.length (toksV s (scanT s.data.toList).1))

theorem tok_bad {W w' : World} {s : ByteArray} {i : Nat} {er : Int} (hb : Below W.heap.size W w') (h : scanT s.data.toList = ([], i, er)) (hne : er ≠ 0) :
    TokPost W s (.returned (.tuple #[.slice none 0 0, .agg #[.int .i64 (pos s.data.toList i).1, .int .i64 (pos s.data.toList i).2], .int .i64 er])) w' :=
  ⟨hb, fun _ => by rw [h], fun h' => by rw [h] at h'; exact absurd h' hne⟩

/-- The end's cells. -/
def endC (s : ByteArray) (i : Nat) : List Value := [.int .i64 0, .string ByteArray.empty, .int .i64 (pos s.data.toList i).1, .int .i64 (pos s.data.toList i).2]
theorem endC_one (s : ByteArray) (i : Nat) : ∀ u ∈ endC s i, u.oneCell' = true := by simp [endC, Value.oneCell']
theorem endC_eq (s : ByteArray) (i : Nat) : endC s i = tokV s ⟨0, i, 0⟩ := by
  have e : s.extract i (i + 0) = ByteArray.empty := by
    apply ByteArray.ext
    simp
  unfold endC tokV
  rw [e]
theorem end_block {B : Nat} {w3 w4 : World} {o : Obj} {c : Obj} {g n cap : Nat} (h : w3.heap[B]? = some c) (hg : B + 1 ≤ g) (hgr : (w3.alloc o).grownBy w4 (Value.ownBlock (.slice (some ⟨g, 0, none⟩) n cap))) : w4.heap[B]? = some c := by
  have hlt := (Array.getElem?_eq_some_iff.1 h).1
  rw [hgr.block B (by simp; omega) (by simp [Value.ownBlock]; omega), heap_alloc_old _ _ hlt, h]

end Go.Proofs.YtcfcpbkeedfbpaaDoor
