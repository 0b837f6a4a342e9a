/- ActText, TransPieces, TransPut, TermSameG, ActSameG, TransEqual, TransSame, joined. -/
import Derived.Test.YtobpcpfomdblgaaGreatDoorMTransPuts11
import Derived.Test.YtobpcpfomdblgaaGreatDoorMTransPuts05
import Derived.Test.YtobpcpfomdblgaaGreatDoorMTransPuts12
import Derived.Test.YtobpcpfomdblgaaGreatDoorShelf
import Derived.Test.YtobpcpfomdblgaaGreatDoorMTransPuts10
import Derived.Deep.Cut
import Derived.Test.YtobpcpfomdblgaaGreatDoorMTransPuts04
import Derived.Lib.QuietBelow
import Derived.Test.YtobpcpfomdblgaaGreatDoorMTransPuts06
namespace Go.Proofs.YtobpcpfomdblgaaGreatDoor
open Go.RowKit TermSpec EvalSpec ActSpec NamesSpec ExprSpec
set_option maxRecDepth 100000

set_option maxHeartbeats 1000000 in
theorem atext_any (t : Ta) (h : t.Ok) (A : Option Addr) (n c : Nat) (w : World) (ht : Tms w (.slice A n c) t.ac.x) (hsm : Small t.ac.x) (hg : SignsIn w) :
    Calls Tryz.prog 72 #[.agg #[.string t.s, .bool t.any, .slice A n c]] w (RetS w (txA t)) := by
  have hsz := name_size h.1
  rcases ha : t.any with _ | _
  · obtain ⟨hgx, hk⟩ := h.2 ha
    have h40 := ta_few h ha
    have htz := tx_size hgx
    have hx : t.ac.x = flat t.e := by simp [Ta.ac, ha]
    rw [hx] at ht hsm
    obtain ⟨A', n', c', heq, hn, hnc⟩ := ht.shape
    cases heq
    have HP : Hid (∀ W, Below w.heap.size w W → Calls Tryz.prog 45 #[.slice A n c] W (RetPut W (tx t.e) 0)) := Lib.hid (fun W hW => put_ok A n c (flat t.e) W (ht.keep hW) hn hsm (hg.keep hW) rfl hgx hk h40)
    have HT : Hid (txA t = t.s ++ ⟨#[32, 58, 61, 32]⟩ ++ tx t.e) := Lib.hid (by unfold txA; rw [if_neg (by simp [ha])])
    obtain ⟨x, hxx⟩ : ∃ x, x = tx t.e := ⟨_, rfl⟩
    rw [← hxx] at HP HT htz
    have h5 : t.s.size ≤ 12 := hsz
    have h6 : x.size ≤ 1200 := by omega
    obtain ⟨s, hs⟩ : ∃ s, s = t.s := ⟨_, rfl⟩
    rw [← hs] at HT h5 ⊢
    have h7 : ¬ 9223372036854775807 < s.size + 4 := by omega
    have h8 : ¬ 9223372036854775807 < s.size + 4 + x.size := by omega
    clear hx ht hn hnc hgx hk h40 htz hxx hs hsz ha hg hsm
    go_enter Tryz.func72, Tryz.ntmps72
    go_wp2_with (go_at_call 45; (with_reducible refine (HP.out _ (KitC.below_one _ _)).mono ?_))
    rintro e2 w2 ⟨rfl, hb2⟩
    obtain ⟨B2, hbb, _⟩ := KitC.one_block hb2
    have HB2 := Lib.hid hbb
    obtain ⟨c0, c1, c2⟩ := cells_3 B2
    clear hb2 hbb B2
    go_wp2_with fail
    go_ret
    exact ⟨by rw [HT.out]; rfl, HB2.out⟩
  · have HT : Hid (txA t = ⟨#[97, 110, 121, 32]⟩ ++ t.s) := Lib.hid (by unfold txA; rw [if_pos ha])
    obtain ⟨s, hs⟩ : ∃ s, s = t.s := ⟨_, rfl⟩
    rw [← hs] at HT hsz ⊢
    have h7 : ¬ 9223372036854775807 < 4 + s.size := by omega
    clear ht hs ha hg h hsm
    go_enter Tryz.func72, Tryz.ntmps72
    go_wp2_with fail
    go_ret
    exact ⟨by rw [HT.out]; rfl, KitC.below_one _ _⟩
def APutRel (W w1 : World) (ts : List Ta) (p i : Value) (wr : World) : Prop := ∃ k : Nat, k ≤ ts.length ∧ i = .int .i64 k ∧ RowS w1 wr p ((ts.take k).map txA) ∧ Below W.heap.size W w1
theorem txs_next {ts : List Ta} {k : Nat} {t : Ta} (h : ts[k]? = some t) : (ts.take (k + 1)).map txA = (ts.take k).map txA ++ [txA t] := by rw [take_next h, List.map_append]; rfl
/-- The call of Join over a row of the call's own. -/
theorem join_row {W w : World} {p : Value} {xs : List ByteArray} (h : RowS W w p xs) (h8 : xs.length ≤ 8) (hl : (Lib.join (xs.map (·.data.toList)) [44, 32]).length ≤ 140737488355328) :
    ∃ A n c, p = .slice A n c ∧ Calls Tryz.prog 19 #[.slice A n c, .string ⟨#[44, 32]⟩] w (RetS w ⟨(Lib.join (xs.map (·.data.toList)) [44, 32]).toArray⟩) := by
  obtain ⟨A, n, c, rfl, hn, hc, hA⟩ := h.read.strs
  rcases Nat.eq_zero_or_pos n with h0 | h0
  · subst h0
    obtain rfl : xs = [] := List.eq_nil_of_length_eq_zero hn
    exact ⟨A, 0, c, rfl, (Tryz.strings_Join_none A c _ w).mono fun e w' ⟨he, hw⟩ => ⟨he, by rw [hw]; exact Below.refl _ _⟩⟩
  · obtain ⟨b, off, rfl, hb, hcell⟩ := hA h0
    subst hn
    exact ⟨_, _, c, rfl, Tryz.strings_Join b off c xs ⟨#[44, 32]⟩ w hcell hb (by omega) hc hl⟩
set_option maxHeartbeats 4000000 in
theorem aput_any (A : Option Addr) (n c : Nat) (l : List Ac) (hs : ∀ a ∈ l, SmallA a) (hl : l.length ≤ 9223372036854775807) (w : World) (h : Acs w (.slice A n c) l) (hg : SignsIn w) :
    (chkA l ≠ 0 → Calls Tryz.prog 46 #[.slice A n c] w (RetPut w ⟨#[]⟩ (chkA l))) ∧
    (∀ ts : List Ta, ts.map Ta.ac = l → (∀ t ∈ ts, t.Ok) → chkA l = 0 → Calls Tryz.prog 46 #[.slice A n c] w (RetPut w (putB ts) 0)) := by
  have HT := Lib.hid h
  have HN := Lib.hid h.len.1
  have hcap := h.len.2
  have HCK := Lib.hid (check_acts A n c l hs hl w h)
  have HG := Lib.hid hg
  have HS := Lib.hid hs
  refine ⟨fun hk => ?_, fun ts hts hok hk => ?_⟩
  · obtain ⟨k, hkk⟩ : ∃ k, k = chkA l := ⟨_, rfl⟩
    rw [← hkk] at HCK hk ⊢
    have e1 : (k != 0) = true := by simpa using hk
    clear h hs hl hg hkk hk
    go_enter Tryz.func46, Tryz.ntmps46
    go_wp2_with (go_at_call 26; (with_reducible refine HCK.out.mono ?_))
    rintro e w1 ⟨rfl, hb1⟩
    have HB := Lib.hid hb1
    clear hb1
    go_wp2_with fail
    go_ret2
    exact ⟨rfl, HB.out⟩
  · have h8 : ts.length ≤ 8 := by
      have h1 : l.length = ts.length := by rw [← hts, List.length_map]
      have h2 : l.length ≤ 8 := by
        unfold chkA at hk
        split at hk
        · cases hk
        · omega
      omega
    have HLN : Hid (l.length = ts.length) := Lib.hid (by rw [← hts, List.length_map])
    rw [hk] at HCK
    obtain ⟨i0, hi, hz0, hz1, hz2⟩ := info_parts inf_str
    have HI := Lib.hid (And.intro hi (And.intro hz0 (And.intro hz1 hz2)))
    have HOK := Lib.hid hok
    have HTS := Lib.hid hts
    obtain ⟨P, hP⟩ : ∃ P, P = putB ts := ⟨_, rfl⟩
    rw [← hP]
    have HP := Lib.hid hP
    have HJL : Hid ((Lib.join ((ts.map txA).map (·.data.toList)) [44, 32]).length ≤ 140737488355328 ∧ (⟨(Lib.join ((ts.map txA).map (·.data.toList)) [44, 32]).toArray⟩ : ByteArray) = putB ts) := Lib.hid (by
      have h1 := putB_size hok
      have h2 : (putB ts).size = (putT ts).length := by simp [putB, ByteArray.size]
      have h3 : Lib.join ((ts.map txA).map (·.data.toList)) [44, 32] = putT ts := by unfold putT; rw [List.map_map]; rfl
      rw [h3]
      exact ⟨by omega, rfl⟩)
    clear h hs hl hg hk hts hok hi hz0 hz1 hz2 hP
    go_enter Tryz.func46, Tryz.ntmps46
    go_wp2_with (go_at_call 26; (with_reducible refine HCK.out.mono ?_))
    rintro e w1 ⟨rfl, hb1⟩
    have HB1 := Lib.hid hb1
    clear hb1
    go_wp2_with fail
    go_loopw [5, 7, 15] (fun p _ i wr => APutRel w w1 ts p i wr) (fun _ _ i _ => ts.length - (intOf i).toNat)
    case atStart => exact ⟨0, Nat.zero_le _, rfl, RowS.nil _ _ (Below.refl _ _), HB1.out⟩
    case round =>
      obtain ⟨k, hkt, rfl, hrow, _⟩ := hrel
      have HR0 := Lib.hid hrow
      have HWB := Lib.hid (below_two' HB1.out hrow.2)
      clear hrow
      by_cases hlt : k < n
      · have hkI : (k : Int) < n := by omega
        have hk8 : (k : Int) ≤ 8 := by omega
        obtain ⟨t, ht⟩ : ∃ t, ts[k]? = some t := get_some (by have := HN.out; have := HLN.out; omega)
        have hla : l[k]? = some t.ac := by rw [← HTS.out, List.getElem?_map, ht]; rfl
        obtain ⟨b, off, tA, tn, tc, rfl, hb, htm, d0, d1, d2⟩ := (HT.out.keep HWB.out).at_ hla
        obtain ⟨tA', tn', tc', heq, htn, htc⟩ := htm.shape
        cases heq
        have HC : Hid (∀ V, Below wr.heap.size wr V → Calls Tryz.prog 72 #[.agg #[.string t.s, .bool t.any, .slice tA tn tc]] V (RetS V (txA t))) := Lib.hid (fun V hV => atext_any t (HOK.out t (List.mem_of_getElem? ht)) tA tn tc V (htm.keep hV) (HS.out _ (List.mem_of_getElem? hla)).2.1 (HG.out.keep (below_two' HWB.out hV)))
        have HX := Lib.hid (txs_next ht)
        have hd0 : wr.cell? ⟨b, off + k * 3, none⟩ = some (.string t.s) := d0
        have hd1 : wr.cell? ⟨b, off + k * 3 + 1, none⟩ = some (.bool t.any) := d1
        obtain ⟨x, hx⟩ : ∃ x, x = txA t := ⟨_, rfl⟩
        rw [← hx] at HC HX
        have HL1 : Hid (((ts.take k).map txA).length + (strV [x]).length ≤ maxLen) := Lib.hid (by rw [List.length_map, List.length_take]; simp [maxLen]; omega)
        have HL2 : Hid ((((ts.take k).map txA).length + (strV [x]).length) * 16 ≤ 140737488355328) := Lib.hid (by rw [List.length_map, List.length_take]; simp; omega)
        clear ht hla htm htn hx d0 d1
        obtain ⟨ta, tany, te⟩ := t
        simp only at hd0 hd1 HC
        go_wp2_with (go_at_call 72; (with_reducible refine (HC.out _ (KitC.below_one _ _)).mono ?_))
        rintro e w2 ⟨rfl, hb2⟩
        have HR1 := Lib.hid (HR0.out.keep (below_two' (KitC.below_one _ _) hb2))
        have HSZ : Hid (w1.heap.size ≤ w2.heap.size) := Lib.hid HR1.out.2.size
        have HRA := Lib.hid HR1.out.1
        clear hb2
        go_wp2_with (at_builtin; refine wpList_append_rd _ rfl (.tmp 19) (.tmp 22) _ rfl w1.heap.size 9 i0 (.string ByteArray.empty) 16 Tryz.underlying48 HI.out.1 HI.out.2.1 HI.out.2.2.1 HI.out.2.2.2 rfl _ _ _ rfl (own_keep HRA.out (KitC.below_one _ _)) _ (strV [x]) rfl (lit_here rfl rfl rfl) (strV_one _) HL1.out HL2.out ?_ ?_; (have := HSZ.out; simp; omega); intro p2 w3 hrow3 hg3 _; have HR2 := Lib.hid (RowS.add HR1.out hrow3 hg3); clear hrow3 hg3)
        go_roundw
        case rel => first | exact ⟨k + 1, by have := HN.out; have := HLN.out; omega, by go_num, by rw [HX.out]; exact HR2.out, HB1.out⟩ | ((repeat apply Exists.intro); exact ⟨⟨k + 1, by have := HN.out; have := HLN.out; omega, by go_num, by rw [HX.out]; exact HR2.out, HB1.out⟩, rfl⟩)
        case measure => have := HN.out; have := HLN.out; simp [intOf]; omega
      · have hkI : ¬ (k : Int) < n := by omega
        have hall : ts.take k = ts := List.take_of_length_le (by have := HN.out; have := HLN.out; omega)
        have hr := HR0.out
        rw [hall] at hr
        obtain ⟨jA, jn, jc, rfl, hj⟩ := join_row hr (by rw [List.length_map]; exact h8) HJL.out.1
        rw [HJL.out.2, ← HP.out] at hj
        have HJ := Lib.hid hj
        clear hall hr hj
        go_wp2_with (go_at_call 19; (with_reducible refine HJ.out.mono ?_))
        rintro e w2 ⟨rfl, hb2⟩
        have HB2 := Lib.hid (below_two' HWB.out hb2)
        clear hb2
        go_wp2_with fail
        go_ret2
        exact ⟨rfl, HB2.out⟩
end Go.Proofs.YtobpcpfomdblgaaGreatDoor

namespace Go.Proofs.YtobpcpfomdblgaaGreatDoor
open Go.RowKit TermSpec EvalSpec ActSpec NamesSpec ExprSpec TransSpec
set_option maxRecDepth 100000

theorem RowS.addL {W wr w2 : World} {p p' : Value} {xs ys : List ByteArray} {o : Obj} (h : RowS W wr p xs) (hrow : w2.ownsRow W.heap.size 9 1 p' (xs.length + (strV ys).length) (strV xs ++ strV ys)) (hg : (wr.alloc o).grownBy w2 p.ownBlock) : RowS W w2 p' (xs ++ ys) := by
  refine ⟨?_, (h.2.alloc h.2.size o).grown hg (by have := h.2.size; simp; omega) (fun j hj => (own_block_bd h.1 j hj).1)⟩
  rw [← strV_append, List.length_append, ← strV_length ys]
  exact hrow
theorem RowS.lit1 {W : World} {k : Nat} (hk : k = W.heap.size) (a : ByteArray) : RowS W (W.alloc (.cells #[.string a] 9)) (.slice (some ⟨k, 0, none⟩) 1 1) [a] := by
  subst hk
  exact ⟨World.ownsRow_lit W _ 1 (Nat.le_refl _) (by decide) rfl, KitC.below_one _ _⟩
theorem RowS.lit2 {W V : World} {k : Nat} (hk : k = V.heap.size) (hb : Below W.heap.size W V) (a b : ByteArray) : RowS W (V.alloc (.cells #[.string a, .string b] 9)) (.slice (some ⟨k, 0, none⟩) 2 2) [a, b] := by
  subst hk
  exact ⟨World.ownsRow_lit V _ 2 hb.size (by decide) rfl, below_two' hb (KitC.below_one _ _)⟩
theorem RowS.weak {w : World} {o : Obj} {wr : World} {p : Value} {xs : List ByteArray} (h : RowS (w.alloc o) wr p xs) : RowS w wr p xs := ⟨own_weak h.1 (by simp), below_two' (KitC.below_one w o) h.2⟩
/-- The call of Join over a row of the call's own, blanks between. -/
theorem join_blank {W w : World} {p : Value} {xs : List ByteArray} (h : RowS W w p xs) (h8 : xs.length ≤ 8) (hl : (Lib.join (xs.map (·.data.toList)) [32]).length ≤ 140737488355328) :
    ∃ A n c, p = .slice A n c ∧ Calls Tryz.prog 19 #[.slice A n c, .string ⟨#[32]⟩] w (RetS w ⟨(Lib.join (xs.map (·.data.toList)) [32]).toArray⟩) := by
  obtain ⟨A, n, c, rfl, hn, hc, hA⟩ := h.read.strs
  rcases Nat.eq_zero_or_pos n with h0 | h0
  · subst h0
    obtain rfl : xs = [] := List.eq_nil_of_length_eq_zero hn
    exact ⟨A, 0, c, rfl, (Tryz.strings_Join_none A c _ w).mono fun e w' ⟨he, hw⟩ => ⟨he, by rw [hw]; exact Below.refl _ _⟩⟩
  · obtain ⟨b, off, rfl, hb, hcell⟩ := hA h0
    subst hn
    exact ⟨_, _, c, rfl, Tryz.strings_Join b off c xs ⟨#[32]⟩ w hcell hb (by omega) hc hl⟩
def RetRowS (W : World) (xs : List ByteArray) (e : Ending) (w' : World) : Prop := ∃ A n c, e = .returned (.slice A n c) ∧ RowS W w' (.slice A n c) xs
set_option maxRecDepth 100000 in
set_option maxHeartbeats 8000000 in
theorem pieces_any (x : Tt) (hx : x.Ok) (gA : Option Addr) (gn gc : Nat) (aA : Option Addr) (an ac : Nat) (w : World) (hs : SmallT x.tr) (h : TrIn w gA gn gc aA an ac x.tr) (hg : SignsIn w) :
    Calls Tryz.prog 20 #[.agg #[.string x.ev, .slice gA gn gc, .slice aA an ac, .string x.tg]] w (RetRowS w (pcs x)) := by
  have hgn : gn = (gFlat x.g).length := h.len.1
  have han : an = x.ts.length := by rw [h.len.2]; exact List.length_map ..
  obtain ⟨W1, hW1⟩ : ∃ W1, w.alloc (trO x.ev gA gn gc aA an ac x.tg) = W1 := ⟨_, rfl⟩
  have hb1 : Below w.heap.size w W1 := by rw [← hW1]; exact KitC.below_one _ _
  have hk1 : W1.heap[w.heap.size]? = some (trO x.ev gA gn gc aA an ac x.tg) := by rw [← hW1]; exact heap_alloc_new _ _
  have HK := Lib.hid (fun W (hW : Below W1.heap.size W1 W) => cells_4 (KitC.block_on hk1 hW))
  have hk0 := cells_4 hk1
  have HPG : Hid (∀ e, x.g = some e → ∀ W, Below W1.heap.size W1 W → Calls Tryz.prog 45 #[.slice gA gn gc] W (RetPut W (tx e) 0)) := Lib.hid (fun e he W hW => by
    have h1 := (hx.g e he)
    have h2 : gFlat x.g = flat e := by rw [he]; rfl
    have h3 : Tms w (.slice gA gn gc) (flat e) := by rw [← h2]; exact h.g
    exact put_ok gA gn gc (flat e) W (h3.keep (below_two' hb1 hW)) (by rw [hgn, h2]) (by rw [← h2]; exact hs.g) (hg.keep (below_two' hb1 hW)) rfl h1.1 h1.2 (ex_few h1.2))
  have HPA : Hid (∀ W, Below W1.heap.size W1 W → Calls Tryz.prog 46 #[.slice aA an ac] W (RetPut W (putB x.ts) 0)) := Lib.hid (fun W hW => by
    have h1 : chkA (x.ts.map Ta.ac) = 0 := by unfold chkA; rw [if_neg (by rw [List.length_map]; have := hx.few; omega)]; exact tas_first hx.ts
    exact (aput_any aA an ac (x.ts.map Ta.ac) hs.acts hs.alen W (h.a.keep (below_two' hb1 hW)) (hg.keep (below_two' hb1 hW))).2 x.ts rfl hx.ts h1)
  have HLN := Lib.hid (pcs_len x)
  have hsg := guardB_size hx.g
  have HTS : Hid (∀ e, x.g = some e → (tx e).size ≤ 1200) := Lib.hid (fun e he => by
    have h1 := hx.g e he
    have h3 := tx_size h1.1
    have h4 := ex_few h1.2
    omega)
  have HGN : Hid ((gn = 0 ↔ x.g = none) ∧ an = x.ts.length) := Lib.hid ⟨by
    rw [hgn]
    cases x.g with
    | none => simp [gFlat]
    | some e => simp only [gFlat, reduceCtorEq, iff_false]; exact flat_pos e, han⟩
  have HPC : Hid (pcs x = ((pcH x.ev ++ pcG x.g) ++ pcA x.ts) ++ pcT x.tg) := Lib.hid rfl
  obtain ⟨R, hR⟩ : ∃ R, R = pcs x := ⟨_, rfl⟩
  rw [← hR] at HPC HLN ⊢
  obtain ⟨i0, hi, hz0, hz1, hz2⟩ := info_parts inf_str
  have HI := Lib.hid (And.intro hi (And.intro hz0 (And.intro hz1 hz2)))
  have HW1 := Lib.hid hW1
  have HZ1 : Hid (W1.heap.size = w.heap.size + 1) := Lib.hid (by rw [← hW1, World.size_alloc])
  have hcap := h.cap
  have hgn40 : gn ≤ 4398046511104 := by have : x.tr.g.length ≤ _ := hs.glen; have := h.len.1; omega
  have han63 : an ≤ 9223372036854775807 := by have : x.tr.acts.length ≤ _ := hs.alen; have := h.len.2; omega
  obtain ⟨ev, g, ts, tg⟩ := x
  simp only at HK hk0 HPG HPA HLN HTS HGN HPC HW1 ⊢
  clear hgn han hb1 hk1 hs h hg hx hsg hR hi hz0 hz1 hz2 hW1
  obtain ⟨k0, k1, k2, k3⟩ := hk0
  have hka := HK.out _ (KitC.below_one W1 (.cells #[.string ⟨#[97, 117, 116, 111]⟩] 9))
  have HKA := Lib.hid hka
  clear hka
  go_enter Tryz.func20, Tryz.ntmps20
  go_upto_if 11 with fail
  rw [HW1.out]
  go_cut [3] from 8 (fun p wx => RowS W1 wx p (pcH ev))
  case first =>
    obtain ⟨m0, m1, m2, m3⟩ := HKA.out
    rcases Nat.eq_zero_or_pos ev.size with h0 | h0
    · have HE := Lib.hid (pcH_nil h0)
      have g0 : (!ev.toList.isEmpty) = false := by rw [str_nil' h0]; rfl
      clear h0
      rw [g0]
      go_wp2_with fail
      go_meet
      case rel =>
        rw [HE.out]
        exact RowS.lit1 HZ1.out.symm _
    · have HE := Lib.hid (pcH_ev h0)
      have g0 : (!ev.toList.isEmpty) = true := by rw [str_ne' h0]; rfl
      clear h0
      rw [g0]
      go_wp2_with fail
      go_meet
      case rel =>
        rw [HE.out]
        exact RowS.lit2 (by simp [HZ1.out]) (KitC.below_one _ _) _ _
  case rest =>
    clear HKA k0 k1 k2 k3
    have HROW := Lib.hid hcut
    have HBL := Lib.hid hcut.2
    have hl2 : (pcH ev).length ≤ 2 := HLN.out.1
    obtain ⟨L, hL⟩ : ∃ L, L = pcH ev := ⟨_, rfl⟩
    rw [← hL] at HROW HPC HLN hl2
    obtain ⟨k0, k1, k2, k3⟩ := HK.out _ HROW.out.2
    obtain ⟨pA, pc, hsh⟩ := own_shape HROW.out.1
    have HSH := Lib.hid hsh
    clear hcut hL hsh
    go_upto_if 18 with fail
    go_cut [3] from 8 (fun p wx => RowS W1 wx p (L ++ pcG g))
    case first =>
      cases g with
      | none =>
        obtain rfl : gn = 0 := HGN.out.1.2 rfl
        go_wp2_with fail
        go_meet
        case rel => rw [show L ++ pcG none = L from List.append_nil L]; exact HROW.out
      | some e =>
        have hgp : gn ≠ 0 := fun h => by cases (HGN.out.1.1 h)
        have g0 : decide (0 < gn) = true := by simp; omega
        have HP := Lib.hid (HPG.out e rfl)
        have HX : Hid (pcG (some e) = [⟨#[91]⟩ ++ tx e ++ ⟨#[93]⟩]) := Lib.hid rfl
        have hz := HTS.out e rfl
        obtain ⟨y, hy⟩ : ∃ y, y = tx e := ⟨_, rfl⟩
        rw [← hy] at HP HX hz
        have q1 : ¬ 9223372036854775807 < 1 + y.size := by omega
        have q2 : ¬ 9223372036854775807 < 1 + y.size + 1 := by omega
        have HL1 : Hid (L.length + (strV [(⟨#[91]⟩ : ByteArray) ++ y ++ ⟨#[93]⟩]).length ≤ maxLen) := Lib.hid (by simp [maxLen]; omega)
        have HL2 : Hid ((L.length + (strV [(⟨#[91]⟩ : ByteArray) ++ y ++ ⟨#[93]⟩]).length) * 16 ≤ 140737488355328) := Lib.hid (by simp; omega)
        clear hgp hy
        rw [g0]
        go_wp2_with (go_at_call 45; (with_reducible refine (HP.out _ HBL.out).mono ?_))
        rintro e2 w2 ⟨rfl, hb2⟩
        have HR1 := Lib.hid (HROW.out.keep hb2)
        have HSZ : Hid (W1.heap.size ≤ w2.heap.size) := Lib.hid HR1.out.2.size
        have HRA := Lib.hid HR1.out.1
        clear hb2 k0 k1 k2 k3
        go_wp2_with (at_builtin; refine wpList_append_rd _ rfl (.tmp 25) (.tmp 29) _ rfl W1.heap.size 9 i0 (.string ByteArray.empty) 16 Tryz.underlying48 HI.out.1 HI.out.2.1 HI.out.2.2.1 HI.out.2.2.2 rfl _ _ _ rfl (own_keep HRA.out (KitC.below_one _ _)) _ (strV [(⟨#[91]⟩ : ByteArray) ++ y ++ ⟨#[93]⟩]) rfl (lit_here rfl rfl rfl) (strV_one _) HL1.out HL2.out ?_ ?_; (have := HSZ.out; simp; omega); intro p2 w3 hrow3 hg3 _; have HR2 := Lib.hid (RowS.addL HR1.out hrow3 hg3); clear hrow3 hg3)
        go_meet
        case rel => rw [HX.out]; exact HR2.out
    case rest =>
      clear k0 k1 k2 k3 HROW HSH HBL
      have HROW := Lib.hid hcut
      have HBL := Lib.hid hcut.2
      have hl3 : (L ++ pcG g).length ≤ 3 := HLN.out.2.1
      obtain ⟨L2, hL⟩ : ∃ L2, L2 = L ++ pcG g := ⟨_, rfl⟩
      rw [← hL] at HROW HPC HLN hl3
      obtain ⟨k0, k1, k2, k3⟩ := HK.out _ HROW.out.2
      clear hcut hL
      go_upto_if 34 with fail
      go_cut [3] from 8 (fun p wx => RowS W1 wx p (L2 ++ pcA ts))
      case first =>
        rcases Nat.eq_zero_or_pos an with h0 | h0
        · have HX := Lib.hid (pcA_nil (ts := ts) (by have := HGN.out.2; omega))
          subst h0
          go_wp2_with fail
          go_meet
          case rel => rw [HX.out, List.append_nil]; exact HROW.out
        · have HX := Lib.hid (pcA_some (ts := ts) (by have := HGN.out.2; omega))
          have g0 : decide (0 < an) = true := by simp; omega
          obtain ⟨y, hy⟩ : ∃ y, y = putB ts := ⟨_, rfl⟩
          rw [← hy] at HPA HX
          have HL1 : Hid (L2.length + (strV [wDo, y]).length ≤ maxLen) := Lib.hid (by simp [maxLen]; omega)
          have HL2 : Hid ((L2.length + (strV [wDo, y]).length) * 16 ≤ 140737488355328) := Lib.hid (by simp; omega)
          clear h0 hy
          rw [g0]
          go_wp2_with (go_at_call 46; (with_reducible refine (HPA.out _ HBL.out).mono ?_))
          rintro e2 w2 ⟨rfl, hb2⟩
          have HR1 := Lib.hid (HROW.out.keep hb2)
          have HSZ : Hid (W1.heap.size ≤ w2.heap.size) := Lib.hid HR1.out.2.size
          have HRA := Lib.hid HR1.out.1
          clear hb2 k0 k1 k2 k3
          go_wp2_with (at_builtin; refine wpList_append_rd _ rfl (.tmp 41) (.tmp 43) _ rfl W1.heap.size 9 i0 (.string ByteArray.empty) 16 Tryz.underlying48 HI.out.1 HI.out.2.1 HI.out.2.2.1 HI.out.2.2.2 rfl _ _ _ rfl (own_keep HRA.out (KitC.below_one _ _)) _ (strV [wDo, y]) rfl (lit_here rfl rfl rfl) (strV_one _) HL1.out HL2.out ?_ ?_; (have := HSZ.out; simp; omega); intro p2 w3 hrow3 hg3 _; have HR2 := Lib.hid (RowS.addL HR1.out hrow3 hg3); clear hrow3 hg3)
          go_meet
          case rel => rw [HX.out]; exact HR2.out
      case rest =>
        clear k0 k1 k2 k3 HROW HBL
        have HROW := Lib.hid hcut
        have hl5 : (L2 ++ pcA ts).length ≤ 5 := HLN.out.2.2.1
        obtain ⟨L3, hL⟩ : ∃ L3, L3 = L2 ++ pcA ts := ⟨_, rfl⟩
        rw [← hL] at HROW HPC hl5
        obtain ⟨k0, k1, k2, k3⟩ := HK.out _ HROW.out.2
        obtain ⟨pA3, pc3, hsh⟩ := own_shape HROW.out.1
        have HSZ : Hid (W1.heap.size ≤ wc.heap.size) := Lib.hid HROW.out.2.size
        have HRA := Lib.hid HROW.out.1
        clear hcut hL
        rcases Nat.eq_zero_or_pos tg.size with h0 | h0
        · have HX : Hid (R = L3) := Lib.hid (by rw [HPC.out, pcT_nil h0, List.append_nil])
          have g0 : tg.toList.isEmpty = true := by rw [str_nil' h0]; rfl
          have hn := str_nil' h0
          subst hsh
          clear h0
          go_wp2_with fail
          go_ret
          have h := HROW.out
          rw [← HW1.out] at h
          exact ⟨_, _, _, rfl, by rw [HX.out]; exact h.weak⟩
        · have HX : Hid (R = L3 ++ [wTo, tg]) := Lib.hid (by rw [HPC.out, pcT_tg h0])
          have g0 : tg.toList.isEmpty = false := str_ne' h0
          have HL1 : Hid (L3.length + (strV [wTo, tg]).length ≤ maxLen) := Lib.hid (by simp [maxLen]; omega)
          have HL2 : Hid ((L3.length + (strV [wTo, tg]).length) * 16 ≤ 140737488355328) := Lib.hid (by simp; omega)
          clear h0 hsh
          go_wp2_with (at_builtin; refine wpList_append_rd _ rfl (.tmp 48) (.tmp 51) _ rfl W1.heap.size 9 i0 (.string ByteArray.empty) 16 Tryz.underlying48 HI.out.1 HI.out.2.1 HI.out.2.2.1 HI.out.2.2.2 rfl _ _ _ rfl (own_keep HRA.out (KitC.below_one _ _)) _ (strV [wTo, tg]) rfl (lit_here rfl rfl rfl) (strV_one _) HL1.out HL2.out ?_ ?_; (have := HSZ.out; simp; omega); intro p2 w3 hrow3 hg3 _; have HR2 := Lib.hid (RowS.addL HROW.out hrow3 hg3); clear hrow3 hg3)
          obtain ⟨pA4, pc4, rfl⟩ := own_shape HR2.out.1
          go_ret
          have h := HR2.out
          rw [← HW1.out] at h
          exact ⟨_, _, _, rfl, by rw [HX.out]; exact h.weak⟩
end Go.Proofs.YtobpcpfomdblgaaGreatDoor

namespace Go.Proofs.YtobpcpfomdblgaaGreatDoor
open Go.RowKit TermSpec EvalSpec ActSpec NamesSpec ExprSpec TransSpec
set_option maxRecDepth 100000

set_option maxHeartbeats 4000000 in
theorem tput_bad (t : Tr) (gA : Option Addr) (gn gc : Nat) (aA : Option Addr) (an ac : Nat) (w : World) (hs : SmallT t) (h : TrIn w gA gn gc aA an ac t) (hk : chkT t ≠ 0) :
    Calls Tryz.prog 6 #[.agg #[.string t.ev, .slice gA gn gc, .slice aA an ac, .string t.tg]] w (RetPut w ⟨#[]⟩ (chkT t)) := by
  have HC := Lib.hid (tcheck_any t gA gn gc aA an ac (w.alloc (trO t.ev gA gn gc aA an ac t.tg)) hs (h.alloc _))
  obtain ⟨k, hkk⟩ : ∃ k, k = chkT t := ⟨_, rfl⟩
  rw [← hkk] at HC hk ⊢
  have e1 : (k != 0) = true := by simpa using hk
  obtain ⟨ev, g, acts, tg⟩ := t
  simp only at HC ⊢
  clear hs h hkk hk
  go_enter Tryz.func6, Tryz.ntmps6
  go_wp2_with (go_at_call 8; (with_reducible refine HC.out.mono ?_))
  rintro e w2 ⟨rfl, hb⟩
  have HB := Lib.hid (below_two' (KitC.below_one _ _) hb)
  clear hb
  go_wp2_with fail
  go_ret2
  exact ⟨rfl, HB.out⟩
set_option maxHeartbeats 4000000 in
theorem tput_ok (x : Tt) (hx : x.Ok) (gA : Option Addr) (gn gc : Nat) (aA : Option Addr) (an ac : Nat) (w : World) (hs : SmallT x.tr) (h : TrIn w gA gn gc aA an ac x.tr) (hg : SignsIn w) :
    Calls Tryz.prog 6 #[.agg #[.string x.ev, .slice gA gn gc, .slice aA an ac, .string x.tg]] w (RetPut w (txT x) 0) := by
  have HC : Hid (Calls Tryz.prog 8 #[.agg #[.string x.ev, .slice gA gn gc, .slice aA an ac, .string x.tg]] (w.alloc (trO x.ev gA gn gc aA an ac x.tg)) (RetI (w.alloc (trO x.ev gA gn gc aA an ac x.tg)) 0)) := Lib.hid (by
    have := tcheck_any x.tr gA gn gc aA an ac (w.alloc (trO x.ev gA gn gc aA an ac x.tg)) hs (h.alloc _)
    rwa [tt_chk hx] at this)
  have HP := Lib.hid (fun W (hW : Below w.heap.size w W) => pieces_any x hx gA gn gc aA an ac W hs (h.keep hW) (hg.keep hW))
  have HLN := Lib.hid (pcs_len x).2.2.2
  have HJ := Lib.hid (pcs_join hx)
  have hsz := txT_size hx
  obtain ⟨R, hR⟩ : ∃ R, R = txT x := ⟨_, rfl⟩
  rw [← hR] at HJ hsz ⊢
  obtain ⟨L, hL⟩ : ∃ L, L = pcs x := ⟨_, rfl⟩
  rw [← hL] at HP HLN HJ
  obtain ⟨ev, g, ts, tg⟩ := x
  simp only at HC HP ⊢
  clear hs h hR hL hg hx
  go_enter Tryz.func6, Tryz.ntmps6
  go_wp2_with (go_at_call 8; (with_reducible refine HC.out.mono ?_))
  rintro e w2 ⟨rfl, hb⟩
  have HB := Lib.hid (And.intro (KitC.one_block hb).1 (KitC.one_block hb).2.1)
  obtain ⟨c0, c1, c2, c3⟩ := cells_4 HB.out.1
  clear hb
  go_wp2_with (go_at_call 20; (with_reducible refine (HP.out _ HB.out.2).mono ?_))
  rintro e w3 ⟨A3, n3, c3', rfl, hrow⟩
  obtain ⟨jA, jn, jc, heq, hj⟩ := join_blank hrow (by have := HLN.out; omega) (by have := HJ.out.1; omega)
  cases heq
  obtain ⟨j, hjj⟩ : ∃ j : ByteArray, j = ⟨(Lib.join (L.map (·.data.toList)) [32]).toArray⟩ := ⟨_, rfl⟩
  rw [← hjj] at hj
  have HJJ : Hid (j ++ ⟨#[59]⟩ = R) := Lib.hid (by rw [hjj]; exact HJ.out.2)
  have hj1 : j.size + 1 ≤ 11659 := by
    have := HJJ.out
    rw [← this, ByteArray.size_append] at hsz
    exact hsz
  have q1 : ¬ 9223372036854775807 < j.size + 1 := by omega
  have HJC := Lib.hid hj
  have HB3 := Lib.hid (below_two' HB.out.2 hrow.2)
  clear hj hjj hrow hsz hj1 c0 c1 c2 c3
  go_wp2_with (go_at_call 19; (with_reducible refine HJC.out.mono ?_))
  rintro e w4 ⟨rfl, hb⟩
  have HB4 := Lib.hid (below_two' HB3.out hb)
  clear hb
  go_wp2_with fail
  go_ret2
  exact ⟨by rw [← HJJ.out]; rfl, HB4.out⟩
end Go.Proofs.YtobpcpfomdblgaaGreatDoor

namespace Go.Proofs.YtobpcpfomdblgaaGreatDoor
open Go.RowKit TermSpec Go.BigFrame
set_option maxRecDepth 100000

def TmGRel (W : World) (l m : List Tm) (n : Nat) (v : Value) (w : World) : Prop := ∃ k : Nat, k ≤ n ∧ v = .int .i64 k ∧ l.take k = m.take k ∧ Below W.heap.size W w
theorem tm_ne {t u : Tm} (h : t ≠ u) : t.op ≠ u.op ∨ (t.op = u.op ∧ t.n ≠ u.n) ∨ (t.op = u.op ∧ t.n = u.n ∧ t.s ≠ u.s) := by
  obtain ⟨a, b, c⟩ := t
  obtain ⟨d, e, f⟩ := u
  simp only
  by_cases h1 : a = d
  · by_cases h2 : b = e
    · exact .inr (.inr ⟨h1, h2, fun h3 => h (by rw [h1, h2, h3])⟩)
    · exact .inr (.inl ⟨h1, h2⟩)
  · exact .inl h1
theorem list_ne {α : Type} {l m : List α} {k : Nat} {t u : α} (h1 : l[k]? = some t) (h2 : m[k]? = some u) (h : t ≠ u) : l ≠ m := fun e => h (by rw [e, h2] at h1; cases h1; rfl)
theorem take_same {α : Type} {l m : List α} {k : Nat} {t : α} (h : l.take k = m.take k) (h1 : l[k]? = some t) (h2 : m[k]? = some t) : l.take (k + 1) = m.take (k + 1) := by rw [take_next h1, take_next h2, h]
theorem bne_bytes {x y : ByteArray} (h : x ≠ y) : (x.toList == y.toList) = false := (Lib.bytes_beq_false_iff x y).2 h
set_option maxHeartbeats 2000000 in
theorem tmsame_dec (A1 A2 : Option Addr) (n1 n2 c1 c2 : Nat) (l m : List Tm) (b : Bool) (hb : b = true ↔ l = m) (w : World) (h1 : Tms w (.slice A1 n1 c1) l) (h2 : Tms w (.slice A2 n2 c2) m) (hn1 : n1 = l.length) (hn2 : n2 = m.length) (hm : n1 ≤ 9223372036854775806) :
    Calls Tryz.prog 30 #[.slice A1 n1 c1, .slice A2 n2 c2] w (RetB w b) := by
  by_cases hnm : n1 = n2
  · subst hnm
    have HT := Lib.hid (And.intro h1 h2)
    have HN := Lib.hid hn1
    have HM := Lib.hid hn2
    have HBB := Lib.hid hb
    clear h1 h2 hn1 hn2 hb
    go_enter Tryz.func30, Tryz.ntmps30
    go_wp2_with fail
    go_loopw [5] (fun v wr => TmGRel w l m n1 v wr) (fun v _ => n1 - (intOf v).toNat)
    case atStart => exact ⟨0, Nat.zero_le _, rfl, rfl, Below.refl _ _⟩
    case round =>
      obtain ⟨k, hk, rfl, htk, hbw⟩ := hrel
      by_cases hlt : k < n1
      · obtain ⟨t, ht⟩ : ∃ t, l[k]? = some t := get_some (by rw [← HN.out]; exact hlt)
        obtain ⟨u, hu⟩ : ∃ u, m[k]? = some u := get_some (by rw [← HM.out]; exact hlt)
        obtain ⟨b1, off1, rfl, hb1, x0, x1, x2⟩ := (HT.out.1.keep hbw).at_ ht
        obtain ⟨b2, off2, rfl, hb2, y0, y1, y2⟩ := (HT.out.2.keep hbw).at_ hu
        have hltI : (k : Int) < (n1 : Int) := by omega
        have HW := Lib.hid hbw
        have HTK := Lib.hid htk
        clear hbw htk
        by_cases htu : t = u
        · subst htu
          have HNX := Lib.hid (take_same HTK.out ht hu)
          obtain ⟨o, nn, s⟩ := t
          simp only at x0 x1 x2 y0 y1 y2
          clear ht hu
          go_wp2_with fail
          go_big_quiet (fail)
          go_wp2_with fail
          go_roundw
          case rel => exact ⟨k + 1, hlt, by simp, HNX.out, below_drewN HW.out _⟩
          case measure => simp [intOf]; omega
        · have HST : Hid (b = false) := Lib.hid (by
            have := list_ne ht hu htu
            rcases b with _ | _
            · rfl
            · exact absurd (HBB.out.1 rfl) this)
          have hne := tm_ne htu
          obtain ⟨o, nn, s⟩ := t
          obtain ⟨o', nn', s'⟩ := u
          simp only at x0 x1 x2 y0 y1 y2 hne
          clear ht hu htu
          rcases hne with hne | ⟨rfl, hne⟩ | ⟨rfl, rfl, hne⟩
          · have g : (o == o') = false := by simpa using hne
            clear hne
            go_wp2_with fail
            go_big_quiet (fail)
            go_wp2_with fail
            go_ret
            exact ⟨ret_bool HST.out.symm, below_drewN HW.out _⟩
          · have g : (nn == nn') = false := by simpa using hne
            clear hne
            go_wp2_with fail
            go_big_quiet (fail)
            go_wp2_with fail
            go_ret
            exact ⟨ret_bool HST.out.symm, below_drewN HW.out _⟩
          · have g := bne_bytes hne
            clear hne
            go_wp2_with fail
            go_big_quiet (fail)
            go_wp2_with fail
            go_ret
            exact ⟨ret_bool HST.out.symm, below_drewN HW.out _⟩
      · have HE : Hid (b = true) := Lib.hid (HBB.out.2 (by
          have h1 := HN.out
          have h2 := HM.out
          rwa [List.take_of_length_le (by omega), List.take_of_length_le (by omega)] at htk))
        have hltI : ¬ (k : Int) < (n1 : Int) := by omega
        go_wp2_with fail
        go_ret
        exact ⟨ret_bool HE.out.symm, hbw⟩
  · have HE : Hid (b = false) := Lib.hid (by
      rcases b with _ | _
      · rfl
      · exact absurd (by rw [hn1, hn2, hb.1 rfl]) hnm)
    have g : ((n1 : Int) != (n2 : Int)) = true := by simp; omega
    have g' : ((n1 : Int) == (n2 : Int)) = false := by simp; omega
    clear h1 h2 hn1 hn2 hb
    go_enter Tryz.func30, Tryz.ntmps30
    go_wp2_with fail
    go_ret
    exact ⟨ret_bool HE.out.symm, Below.refl _ _⟩
end Go.Proofs.YtobpcpfomdblgaaGreatDoor

namespace Go.Proofs.YtobpcpfomdblgaaGreatDoor
open Go.RowKit Go.Sort TermSpec EvalSpec ActSpec NamesSpec Go.BigFrame
set_option maxRecDepth 100000

def AcGRel (W : World) (l m : List Ac) (n : Nat) (v : Value) (w : World) : Prop := ∃ k : Nat, k ≤ n ∧ v = .int .i64 k ∧ l.take k = m.take k ∧ Below W.heap.size W w
theorem ac_ne {t u : Ac} (h : t ≠ u) : t.s ≠ u.s ∨ (t.s = u.s ∧ t.any ≠ u.any) ∨ (t.s = u.s ∧ t.any = u.any ∧ t.x ≠ u.x) := by
  obtain ⟨a, b, c⟩ := t
  obtain ⟨d, e, f⟩ := u
  simp only
  by_cases h1 : a = d
  · by_cases h2 : b = e
    · exact .inr (.inr ⟨h1, h2, fun h3 => h (by rw [h1, h2, h3])⟩)
    · exact .inr (.inl ⟨h1, h2⟩)
  · exact .inl h1
set_option maxHeartbeats 2000000 in
theorem rsame_dec (A1 A2 : Option Addr) (n1 n2 c1 c2 : Nat) (l m : List Ac) (b : Bool) (hb : b = true ↔ l = m) (w : World) (h1 : Acs w (.slice A1 n1 c1) l) (h2 : Acs w (.slice A2 n2 c2) m) (hm : n1 ≤ 4398046511104) (hfew : ∀ a ∈ l, a.x.length ≤ 4398046511104) :
    Calls Tryz.prog 31 #[.slice A1 n1 c1, .slice A2 n2 c2] w (RetB w b) := by
  have hn1 := h1.len.1
  have hn2 := h2.len.1
  have hc1 := h1.len.2
  have hc2 := h2.len.2
  by_cases hnm : n1 = n2
  · subst hnm
    have HT := Lib.hid (And.intro h1 h2)
    have HN := Lib.hid hn1
    have HM := Lib.hid hn2
    have HBB := Lib.hid hb
    have HF := Lib.hid hfew
    clear h1 h2 hn1 hn2 hb hfew
    go_enter Tryz.func31, Tryz.ntmps31
    go_wp2_with fail
    go_loopw [5] (fun v wr => AcGRel w l m n1 v wr) (fun v _ => n1 - (intOf v).toNat)
    case atStart => exact ⟨0, Nat.zero_le _, rfl, rfl, Below.refl _ _⟩
    case round =>
      obtain ⟨k, hk, rfl, htk, hbw⟩ := hrel
      by_cases hlt : k < n1
      · obtain ⟨t, ht⟩ : ∃ t, l[k]? = some t := get_some (by rw [← HN.out]; exact hlt)
        obtain ⟨u, hu⟩ : ∃ u, m[k]? = some u := get_some (by rw [← HM.out]; exact hlt)
        have hx := HF.out t (List.mem_of_getElem? ht)
        obtain ⟨b1, o1, xA, xn, xc, rfl, hb1, ht1, p0, p1, p2⟩ := (HT.out.1.keep hbw).at_ ht
        obtain ⟨b2, o2, yA, yn, yc, rfl, hb2, ht2, q0, q1, q2⟩ := (HT.out.2.keep hbw).at_ hu
        obtain ⟨_, _, _, heq, hxn, _⟩ := ht1.shape
        cases heq
        obtain ⟨_, _, _, heq, hyn, _⟩ := ht2.shape
        cases heq
        obtain ⟨r, hr⟩ : ∃ r : Bool, r = true ↔ t.x = u.x := by
          by_cases h : t.x = u.x
          · exact ⟨true, by simp [h]⟩
          · exact ⟨false, by simp [h]⟩
        have HS : Hid (∀ d os, Calls Tryz.prog 30 #[.slice xA xn xc, .slice yA yn yc] (grow (redrawn wr d) os) fun e w'' => e = .returned (.bool r) ∧ ∃ p : Regrown, w'' = grow (redrawn wr p.d) p.os) := Lib.hid (fun d os => Calls.regrown_of (tmsame_dec xA yA xn yn xc yc t.x u.x r hr (grow (redrawn wr d) os) (ht1.keep (below_regrown wr d os)) (ht2.keep (below_regrown wr d os)) hxn hyn (by omega)))
        have hltI : (k : Int) < (n1 : Int) := by omega
        have hkI : (k : Int) ≤ 4398046511104 := by omega
        have HW := Lib.hid hbw
        have HTK := Lib.hid htk
        clear hbw htk ht1 ht2 hxn hyn hx
        by_cases htu : t = u
        · subst htu
          have HNX := Lib.hid (take_same HTK.out ht hu)
          obtain rfl : r = true := hr.2 rfl
          obtain ⟨s, any, x⟩ := t
          simp only at p0 p1 q0 q1 HS
          have rp0 := cell_regrown p0
          have rp1 := cell_regrown p1
          have rp2 := cell_regrown p2
          have rq0 := cell_regrown q0
          have rq1 := cell_regrown q1
          have rq2 := cell_regrown q2
          clear ht hu p0 p1 p2 q0 q1 q2 hr
          go_wp2_with fail
          refine wp_region_quiet_below (by kernel_rfl) (by kernel_rfl) ?_
          repeat (go_big_quiet_step (exact HS.out _ _))
          refine wpQuiet_nil ?_
          intro _ hw'
          obtain ⟨⟨dq, osq⟩, hw''⟩ := hw'
          subst hw''
          simp only
          have HBQ := Lib.hid (below_two' HW.out (below_regrown wr dq osq))
          clear rp0 rp1 rp2 rq0 rq1 rq2
          go_wp2_with fail
          go_roundw
          case rel => exact ⟨k + 1, hlt, by go_num, HNX.out, HBQ.out⟩
          case measure => simp [intOf]; omega
        · have HST : Hid (b = false) := Lib.hid (by
            have := list_ne ht hu htu
            rcases b with _ | _
            · rfl
            · exact absurd (HBB.out.1 rfl) this)
          have hne := ac_ne htu
          have rp0 := cell_regrown p0
          have rp1 := cell_regrown p1
          have rp2 := cell_regrown p2
          have rq0 := cell_regrown q0
          have rq1 := cell_regrown q1
          have rq2 := cell_regrown q2
          obtain ⟨s, any, x⟩ := t
          obtain ⟨s', any', x'⟩ := u
          simp only at rp0 rp1 rq0 rq1 hne hr
          clear ht hu htu p0 p1 p2 q0 q1 q2
          rcases hne with hne | ⟨rfl, hne⟩ | ⟨rfl, rfl, hne⟩
          · have g := bne_bytes hne
            clear hne hr
            go_wp2_with fail
            refine wp_region_quiet_below (by kernel_rfl) (by kernel_rfl) ?_
            repeat (go_big_quiet_step (exact HS.out _ _))
            refine wpQuiet_nil ?_
            intro _ hw'
            obtain ⟨⟨dq, osq⟩, hw''⟩ := hw'
            subst hw''
            simp only
            have HBQ := Lib.hid (below_two' HW.out (below_regrown wr dq osq))
            clear rp0 rp1 rp2 rq0 rq1 rq2
            go_wp2_with fail
            go_ret
            exact ⟨ret_bool HST.out.symm, HBQ.out⟩
          · have g : (any == any') = false := by simpa using hne
            clear hne hr
            go_wp2_with fail
            refine wp_region_quiet_below (by kernel_rfl) (by kernel_rfl) ?_
            repeat (go_big_quiet_step (exact HS.out _ _))
            refine wpQuiet_nil ?_
            intro _ hw'
            obtain ⟨⟨dq, osq⟩, hw''⟩ := hw'
            subst hw''
            simp only
            have HBQ := Lib.hid (below_two' HW.out (below_regrown wr dq osq))
            clear rp0 rp1 rp2 rq0 rq1 rq2
            go_wp2_with fail
            go_ret
            exact ⟨ret_bool HST.out.symm, HBQ.out⟩
          · obtain rfl : r = false := by
              rcases r with _ | _
              · rfl
              · exact absurd (hr.1 rfl) hne
            clear hne hr
            go_wp2_with fail
            refine wp_region_quiet_below (by kernel_rfl) (by kernel_rfl) ?_
            repeat (go_big_quiet_step (exact HS.out _ _))
            refine wpQuiet_nil ?_
            intro _ hw'
            obtain ⟨⟨dq, osq⟩, hw''⟩ := hw'
            subst hw''
            simp only
            have HBQ := Lib.hid (below_two' HW.out (below_regrown wr dq osq))
            clear rp0 rp1 rp2 rq0 rq1 rq2
            go_wp2_with fail
            go_ret
            exact ⟨ret_bool HST.out.symm, HBQ.out⟩
      · have HE : Hid (b = true) := Lib.hid (HBB.out.2 (by
          have h1 := HN.out
          have h2 := HM.out
          rwa [List.take_of_length_le (by omega), List.take_of_length_le (by omega)] at htk))
        have hltI : ¬ (k : Int) < (n1 : Int) := by omega
        go_wp2_with fail
        go_ret
        exact ⟨ret_bool HE.out.symm, hbw⟩
  · have HE : Hid (b = false) := Lib.hid (by
      rcases b with _ | _
      · rfl
      · exact absurd (by rw [hn1, hn2, hb.1 rfl]) hnm)
    have g : ((n1 : Int) != (n2 : Int)) = true := by simp; omega
    have g' : ((n1 : Int) == (n2 : Int)) = false := by simp; omega
    clear h1 h2 hn1 hn2 hb hfew
    go_enter Tryz.func31, Tryz.ntmps31
    go_wp2_with fail
    go_ret
    exact ⟨ret_bool HE.out.symm, Below.refl _ _⟩
end Go.Proofs.YtobpcpfomdblgaaGreatDoor

namespace Go.Proofs.YtobpcpfomdblgaaGreatDoor
open Go.RowKit Go.Sort TermSpec EvalSpec ActSpec NamesSpec Go.BigFrame
set_option maxRecDepth 100000

theorem eq_yes (t : Tm) (w : World) : (Op.equalIn 10000 53 (.agg #[.int .i64 t.op, .int .i64 t.n, .string t.s]) (.agg #[.int .i64 t.op, .int .i64 t.n, .string t.s])).run Tryz.prog w = .ok true w := by rw [eq_term]; simp
theorem eq_no {t u : Tm} (h : t ≠ u) (w : World) : (Op.equalIn 10000 53 (.agg #[.int .i64 t.op, .int .i64 t.n, .string t.s]) (.agg #[.int .i64 u.op, .int .i64 u.n, .string u.s])).run Tryz.prog w = .ok false w := by
  rw [eq_term]
  congr 1
  rcases tm_ne h with h | ⟨_, h⟩ | ⟨_, _, h⟩
  · simp [h]
  · simp [h]
  · simp [bne_bytes h]
set_option maxHeartbeats 2000000 in
theorem teq_any (A1 A2 : Option Addr) (n1 n2 c1 c2 : Nat) (l m : List Tm) (b : Bool) (hb : b = true ↔ l = m) (w : World) (h1 : Tms w (.slice A1 n1 c1) l) (h2 : Tms w (.slice A2 n2 c2) m) (hn1 : n1 = l.length) (hn2 : n2 = m.length) (hm : n1 ≤ 9223372036854775806) :
    Calls Tryz.prog 27 #[.slice A1 n1 c1, .slice A2 n2 c2] w (RetB w b) := by
  by_cases hnm : n1 = n2
  · subst hnm
    have HT := Lib.hid (And.intro h1 h2)
    have HN := Lib.hid hn1
    have HM := Lib.hid hn2
    have HBB := Lib.hid hb
    clear h1 h2 hn1 hn2 hb
    go_enter Tryz.func27, Tryz.ntmps27
    go_wp2_with fail
    go_loopw [13] (fun v wr => TmGRel w l m n1 v wr) (fun v _ => n1 - (intOf v).toNat)
    case atStart => exact ⟨0, Nat.zero_le _, rfl, rfl, Below.refl _ _⟩
    case round =>
      obtain ⟨k, hk, rfl, htk, hbw⟩ := hrel
      by_cases hlt : k < n1
      · obtain ⟨t, ht⟩ : ∃ t, l[k]? = some t := get_some (by rw [← HN.out]; exact hlt)
        obtain ⟨u, hu⟩ : ∃ u, m[k]? = some u := get_some (by rw [← HM.out]; exact hlt)
        obtain ⟨b1, off1, rfl, hb1, x0, x1, x2⟩ := (HT.out.1.keep hbw).at_ ht
        obtain ⟨b2, off2, rfl, hb2, y0, y1, y2⟩ := (HT.out.2.keep hbw).at_ hu
        have hltI : (k : Int) < (n1 : Int) := by omega
        have HW := Lib.hid hbw
        have HTK := Lib.hid htk
        clear hbw htk
        by_cases htu : t = u
        · subst htu
          have HNX := Lib.hid (take_same HTK.out ht hu)
          have heq := eq_yes t
          obtain ⟨o, nn, s⟩ := t
          simp only at x0 x1 x2 y0 y1 y2 heq
          clear ht hu
          go_wp2_with fail
          go_big_quiet (fail)
          go_wp2_with fail
          go_roundw
          case rel => exact ⟨k + 1, hlt, by go_num, HNX.out, below_drewN HW.out _⟩
          case measure => simp [intOf]; omega
        · have HST : Hid (b = false) := Lib.hid (by
            have := list_ne ht hu htu
            rcases b with _ | _
            · rfl
            · exact absurd (HBB.out.1 rfl) this)
          have heq := eq_no htu
          obtain ⟨o, nn, s⟩ := t
          obtain ⟨o', nn', s'⟩ := u
          simp only at x0 x1 x2 y0 y1 y2 heq
          clear ht hu htu
          go_wp2_with fail
          go_big_quiet (fail)
          go_wp2_with fail
          go_ret
          exact ⟨ret_bool HST.out.symm, below_drewN HW.out _⟩
      · have HE : Hid (b = true) := Lib.hid (HBB.out.2 (by
          have h1 := HN.out
          have h2 := HM.out
          rwa [List.take_of_length_le (by omega), List.take_of_length_le (by omega)] at htk))
        have hltI : ¬ (k : Int) < (n1 : Int) := by omega
        go_wp2_with fail
        go_ret
        exact ⟨ret_bool HE.out.symm, hbw⟩
  · have HE : Hid (b = false) := Lib.hid (by
      rcases b with _ | _
      · rfl
      · exact absurd (by rw [hn1, hn2, hb.1 rfl]) hnm)
    have g : ((n1 : Int) != (n2 : Int)) = true := by simp; omega
    have g' : ((n1 : Int) == (n2 : Int)) = false := by simp; omega
    clear h1 h2 hn1 hn2 hb
    go_enter Tryz.func27, Tryz.ntmps27
    go_wp2_with fail
    go_ret
    exact ⟨ret_bool HE.out.symm, Below.refl _ _⟩
theorem ac_parts {t u : Ac} {r q : Bool} (hr : r = true ↔ t = u) (hq : q = true ↔ t.x = u.x) : r = ((t.s.toList == u.s.toList) && ((t.any == u.any) && q)) := by
  rw [Bool.eq_iff_iff, hr]
  obtain ⟨a, b, c⟩ := t
  obtain ⟨d, e, f⟩ := u
  simp only [Bool.and_eq_true, beq_iff_eq] at hq ⊢
  rw [hq]
  constructor
  · rintro h
    cases h
    exact ⟨rfl, rfl, rfl⟩
  · rintro ⟨h1, h2, h3⟩
    rw [bytes_eq (x := a) (y := d) (by simpa using h1), h2, h3]
theorem some_bool (p : Prop) : ∃ q : Bool, q = true ↔ p := by
  by_cases h : p
  · exact ⟨true, by simp [h]⟩
  · exact ⟨false, by simp [h]⟩
set_option maxHeartbeats 2000000 in
theorem sameAct_any (t u : Ac) (r : Bool) (hr : r = true ↔ t = u) (A1 A2 : Option Addr) (n1 n2 c1 c2 : Nat) (w : World) (h1 : Tms w (.slice A1 n1 c1) t.x) (h2 : Tms w (.slice A2 n2 c2) u.x) (hm : n1 ≤ 4398046511104) :
    Calls Tryz.prog 29 #[.agg #[.string t.s, .bool t.any, .slice A1 n1 c1], .agg #[.string u.s, .bool u.any, .slice A2 n2 c2]] w (RetB w r) := by
  obtain ⟨A', n', c', heq, hn1, -⟩ := h1.shape
  cases heq
  obtain ⟨A', n', c', heq, hn2, -⟩ := h2.shape
  cases heq
  obtain ⟨q, hq⟩ := some_bool (t.x = u.x)
  have HQ := Lib.hid (fun W (hW : Below w.heap.size w W) => teq_any A1 A2 n1 n2 c1 c2 t.x u.x q hq W (h1.keep hW) (h2.keep hW) hn1 hn2 (by omega))
  have HE := Lib.hid (ac_parts hr hq)
  obtain ⟨s, any, x⟩ := t
  obtain ⟨s', any', x'⟩ := u
  simp only at HE HQ ⊢
  clear hr hq h1 h2 hn1 hn2
  rcases g1 : (s.toList == s'.toList) with _ | _
  · have HR : Hid (r = false) := Lib.hid (by rw [HE.out, g1]; rfl)
    clear HE HQ
    go_enter Tryz.func29, Tryz.ntmps29
    go_wp2_with fail
    go_ret
    exact ⟨ret_bool HR.out.symm, KitC.below_pair _ _ _⟩
  · rcases g2 : (any == any') with _ | _
    · have HR : Hid (r = false) := Lib.hid (by rw [HE.out, g1, g2]; rfl)
      clear HE HQ
      go_enter Tryz.func29, Tryz.ntmps29
      go_wp2_with fail
      go_ret
      exact ⟨ret_bool HR.out.symm, KitC.below_pair _ _ _⟩
    · have HR : Hid (r = q) := Lib.hid (by rw [HE.out, g1, g2]; rfl)
      clear HE
      go_enter Tryz.func29, Tryz.ntmps29
      go_wp2_with (go_at_call 27; (with_reducible refine (HQ.out _ (KitC.below_pair _ _ _)).mono ?_))
      rintro e w2 ⟨rfl, hb⟩
      have HB := Lib.hid (below_two' (KitC.below_pair _ _ _) hb)
      clear hb
      go_wp2_with fail
      go_ret
      exact ⟨ret_bool HR.out.symm, HB.out⟩
set_option maxHeartbeats 2000000 in
theorem aeqf_any (A1 A2 : Option Addr) (n1 n2 c1 c2 : Nat) (l m : List Ac) (b : Bool) (hb : b = true ↔ l = m) (w : World) (h1 : Acs w (.slice A1 n1 c1) l) (h2 : Acs w (.slice A2 n2 c2) m) (hm : n1 ≤ 4398046511104) (hfew : ∀ a ∈ l, a.x.length ≤ 4398046511104) :
    Calls Tryz.prog 28 #[.slice A1 n1 c1, .slice A2 n2 c2, .func (.func 29) #[] #[]] w (RetB w b) := by
  have hn1 := h1.len.1
  have hn2 := h2.len.1
  have hc1 := h1.len.2
  have hc2 := h2.len.2
  by_cases hnm : n1 = n2
  · subst hnm
    have HT := Lib.hid (And.intro h1 h2)
    have HN := Lib.hid hn1
    have HM := Lib.hid hn2
    have HBB := Lib.hid hb
    have HF := Lib.hid hfew
    clear h1 h2 hn1 hn2 hb hfew
    go_enter Tryz.func28, Tryz.ntmps28
    go_wp2_with fail
    go_loopw [17] (fun v wr => AcGRel w l m n1 v wr) (fun v _ => n1 - (intOf v).toNat)
    case atStart => exact ⟨0, Nat.zero_le _, rfl, rfl, Below.refl _ _⟩
    case round =>
      obtain ⟨k, hk, rfl, htk, hbw⟩ := hrel
      by_cases hlt : k < n1
      · obtain ⟨t, ht⟩ : ∃ t, l[k]? = some t := get_some (by rw [← HN.out]; exact hlt)
        obtain ⟨u, hu⟩ : ∃ u, m[k]? = some u := get_some (by rw [← HM.out]; exact hlt)
        have hx := HF.out t (List.mem_of_getElem? ht)
        obtain ⟨b1, o1, xA, xn, xc, rfl, hb1, ht1, p0, p1, p2⟩ := (HT.out.1.keep hbw).at_ ht
        obtain ⟨b2, o2, yA, yn, yc, rfl, hb2, ht2, q0, q1, q2⟩ := (HT.out.2.keep hbw).at_ hu
        obtain ⟨_, _, _, heq, hxn, _⟩ := ht1.shape
        cases heq
        obtain ⟨r, hr⟩ := some_bool (t = u)
        have HS := Lib.hid (fun W (hW : Below wr.heap.size wr W) => sameAct_any t u r hr xA yA xn yn xc yc W (ht1.keep hW) (ht2.keep hW) (by omega))
        have HIF := Lib.hid hr
        have hltI : (k : Int) < (n1 : Int) := by omega
        have hkI : (k : Int) ≤ 4398046511104 := by omega
        have HW := Lib.hid hbw
        have HTK := Lib.hid htk
        have HTU := Lib.hid (And.intro ht hu)
        clear hbw htk ht1 ht2 hxn hx ht hu hr
        have HNX : Hid (r = true → l.take (k + 1) = m.take (k + 1)) := Lib.hid (fun h => take_same HTK.out HTU.out.1 (by rw [HIF.out.1 h]; exact HTU.out.2))
        have HST : Hid (r = false → b = false) := Lib.hid (fun h => by
          have := list_ne HTU.out.1 HTU.out.2 (fun e => by rw [HIF.out.2 e] at h; cases h)
          rcases b with _ | _
          · rfl
          · exact absurd (HBB.out.1 rfl) this)
        obtain ⟨s, any, x⟩ := t
        obtain ⟨s', any', x'⟩ := u
        simp only at p0 p1 p2 q0 q1 q2 HS
        rcases r with _ | _
        · have HST' := Lib.hid (HST.out rfl)
          clear HNX HST HIF HTU
          go_wp2_with (go_at_call 29; (with_reducible refine (HS.out _ (KitC.below_pair _ _ _)).mono ?_))
          rintro e w2 ⟨rfl, hb⟩
          have HB := Lib.hid (below_two' HW.out (below_two' (KitC.below_pair _ _ _) hb))
          clear hb
          go_wp2_with fail
          go_ret
          exact ⟨ret_bool HST'.out.symm, HB.out⟩
        · have HNX' := Lib.hid (HNX.out rfl)
          clear HNX HST HIF HTU
          go_wp2_with (go_at_call 29; (with_reducible refine (HS.out _ (KitC.below_pair _ _ _)).mono ?_))
          rintro e w2 ⟨rfl, hb⟩
          have HB := Lib.hid (below_two' HW.out (below_two' (KitC.below_pair _ _ _) hb))
          clear hb
          go_wp2_with fail
          go_roundw
          case rel => exact ⟨k + 1, hlt, by go_num, HNX'.out, HB.out⟩
          case measure => simp [intOf]; omega
      · have HE : Hid (b = true) := Lib.hid (HBB.out.2 (by
          have h1 := HN.out
          have h2 := HM.out
          rwa [List.take_of_length_le (by omega), List.take_of_length_le (by omega)] at htk))
        have hltI : ¬ (k : Int) < (n1 : Int) := by omega
        go_wp2_with fail
        go_ret
        exact ⟨ret_bool HE.out.symm, hbw⟩
  · have HE : Hid (b = false) := Lib.hid (by
      rcases b with _ | _
      · rfl
      · exact absurd (by rw [hn1, hn2, hb.1 rfl]) hnm)
    have g : ((n1 : Int) != (n2 : Int)) = true := by simp; omega
    have g' : ((n1 : Int) == (n2 : Int)) = false := by simp; omega
    clear h1 h2 hn1 hn2 hb hfew
    go_enter Tryz.func28, Tryz.ntmps28
    go_wp2_with fail
    go_ret
    exact ⟨ret_bool HE.out.symm, Below.refl _ _⟩
end Go.Proofs.YtobpcpfomdblgaaGreatDoor

namespace Go.Proofs.YtobpcpfomdblgaaGreatDoor
open Go.RowKit TermSpec EvalSpec ActSpec NamesSpec ExprSpec TransSpec
set_option maxRecDepth 100000

theorem tr_parts {t u : Tr} {r qg qa : Bool} (hr : r = true ↔ t = u) (hg : qg = true ↔ t.g = u.g) (ha : qa = true ↔ t.acts = u.acts) : r = ((t.ev.toList == u.ev.toList) && ((t.tg.toList == u.tg.toList) && (qg && qa))) := by
  rw [Bool.eq_iff_iff, hr]
  obtain ⟨a, b, c, d⟩ := t
  obtain ⟨a', b', c', d'⟩ := u
  simp only [Bool.and_eq_true, beq_iff_eq] at hg ha ⊢
  rw [hg, ha]
  constructor
  · rintro h
    cases h
    exact ⟨rfl, rfl, rfl, rfl⟩
  · rintro ⟨h1, h2, h3, h4⟩
    rw [bytes_eq (x := a) (y := a') (by simpa using h1), bytes_eq (x := d) (y := d') (by simpa using h2), h3, h4]

set_option maxHeartbeats 4000000 in
theorem tsame_any (t u : Tr) (r : Bool) (hr : r = true ↔ t = u) (gA : Option Addr) (gn gc : Nat) (aA : Option Addr) (an ac : Nat) (gA' : Option Addr) (gn' gc' : Nat) (aA' : Option Addr) (an' ac' : Nat) (w : World) (h1 : TrIn w gA gn gc aA an ac t) (h2 : TrIn w gA' gn' gc' aA' an' ac' u) (hgl : t.g.length ≤ 4398046511104) (hal : t.acts.length ≤ 4398046511104) (hfew : ∀ a ∈ t.acts, a.x.length ≤ 4398046511104) :
    Calls Tryz.prog 9 #[.agg #[.string t.ev, .slice gA gn gc, .slice aA an ac, .string t.tg], .agg #[.string u.ev, .slice gA' gn' gc', .slice aA' an' ac', .string u.tg]] w (RetB w r) := by
  obtain ⟨qg, hg⟩ := some_bool (t.g = u.g)
  obtain ⟨qa, ha⟩ := some_bool (t.acts = u.acts)
  have l1 := h1.len
  have l2 := h2.len
  have HG := Lib.hid (fun W (hW : Below w.heap.size w W) => teq_any gA gA' gn gn' gc gc' t.g u.g qg hg W (h1.g.keep hW) (h2.g.keep hW) l1.1 l2.1 (by omega))
  have HA := Lib.hid (fun W (hW : Below w.heap.size w W) => aeqf_any aA aA' an an' ac ac' t.acts u.acts qa ha W (h1.a.keep hW) (h2.a.keep hW) (by omega) hfew)
  have HE := Lib.hid (tr_parts hr hg ha)
  obtain ⟨ev, g, acts, tg⟩ := t
  obtain ⟨ev', g', acts', tg'⟩ := u
  simp only at HE HG HA ⊢
  clear hr hg ha h1 h2 l1 l2 hfew hgl hal
  rcases g1 : (ev.toList == ev'.toList) with _ | _
  · have HR : Hid (r = false) := Lib.hid (by rw [HE.out, g1]; rfl)
    clear HE HG HA
    go_enter Tryz.func9, Tryz.ntmps9
    go_wp2_with fail
    go_ret
    exact ⟨ret_bool HR.out.symm, KitC.below_pair _ _ _⟩
  rcases g2 : (tg.toList == tg'.toList) with _ | _
  · have HR : Hid (r = false) := Lib.hid (by rw [HE.out, g1, g2]; rfl)
    clear HE HG HA
    go_enter Tryz.func9, Tryz.ntmps9
    go_wp2_with fail
    go_ret
    exact ⟨ret_bool HR.out.symm, KitC.below_pair _ _ _⟩
  rcases qg with _ | _
  · have HR : Hid (r = false) := Lib.hid (by rw [HE.out, g1, g2]; rfl)
    clear HE HA
    go_enter Tryz.func9, Tryz.ntmps9
    go_wp2_with (go_at_call 27; (with_reducible refine (HG.out _ (KitC.below_pair _ _ _)).mono ?_))
    rintro e w2 ⟨rfl, hb⟩
    have HB := Lib.hid (below_two' (KitC.below_pair _ _ _) hb)
    clear hb
    go_wp2_with fail
    go_ret
    exact ⟨ret_bool HR.out.symm, HB.out⟩
  · have HR : Hid (r = qa) := Lib.hid (by rw [HE.out, g1, g2]; rfl)
    clear HE
    go_enter Tryz.func9, Tryz.ntmps9
    go_wp2_with (go_at_call 27; (with_reducible refine (HG.out _ (KitC.below_pair _ _ _)).mono ?_))
    rintro e w2 ⟨rfl, hb⟩
    have HB := Lib.hid (KitC.pair_blocks hb)
    obtain ⟨c0, c1, c2, c3⟩ := cells_4 HB.out.1
    obtain ⟨d0, d1, d2, d3⟩ := cells_4 HB.out.2.1
    clear hb
    go_wp2_with (go_at_call 28; (with_reducible refine (HA.out _ HB.out.2.2.1).mono ?_))
    rintro e w3 ⟨rfl, hb⟩
    have HB3 := Lib.hid (below_two' HB.out.2.2.1 hb)
    clear hb
    go_wp2_with fail
    go_ret
    exact ⟨ret_bool HR.out.symm, HB3.out⟩
set_option maxHeartbeats 4000000 in
theorem trsame_any (t u : Tr) (r : Bool) (hr : r = true ↔ t = u) (gA : Option Addr) (gn gc : Nat) (aA : Option Addr) (an ac : Nat) (gA' : Option Addr) (gn' gc' : Nat) (aA' : Option Addr) (an' ac' : Nat) (w : World) (h1 : TrIn w gA gn gc aA an ac t) (h2 : TrIn w gA' gn' gc' aA' an' ac' u) (hgl : t.g.length ≤ 4398046511104) (hal : t.acts.length ≤ 4398046511104) (hfew : ∀ a ∈ t.acts, a.x.length ≤ 4398046511104) :
    Calls Tryz.prog 10 #[.agg #[.string t.ev, .slice gA gn gc, .slice aA an ac, .string t.tg], .agg #[.string u.ev, .slice gA' gn' gc', .slice aA' an' ac', .string u.tg]] w (RetB w r) := by
  obtain ⟨qg, hg⟩ := some_bool (t.g = u.g)
  obtain ⟨qa, ha⟩ := some_bool (t.acts = u.acts)
  have l1 := h1.len
  have l2 := h2.len
  have HG := Lib.hid (fun W (hW : Below w.heap.size w W) => tmsame_dec gA gA' gn gn' gc gc' t.g u.g qg hg W (h1.g.keep hW) (h2.g.keep hW) l1.1 l2.1 (by omega))
  have HA := Lib.hid (fun W (hW : Below w.heap.size w W) => rsame_dec aA aA' an an' ac ac' t.acts u.acts qa ha W (h1.a.keep hW) (h2.a.keep hW) (by omega) hfew)
  have HE := Lib.hid (tr_parts hr hg ha)
  obtain ⟨ev, g, acts, tg⟩ := t
  obtain ⟨ev', g', acts', tg'⟩ := u
  simp only at HE HG HA ⊢
  clear hr hg ha h1 h2 l1 l2 hfew hgl hal
  rcases g1 : (ev.toList == ev'.toList) with _ | _
  · have HR : Hid (r = false) := Lib.hid (by rw [HE.out, g1]; rfl)
    clear HE HG HA
    go_enter Tryz.func10, Tryz.ntmps10
    go_wp2_with fail
    go_ret
    exact ⟨ret_bool HR.out.symm, KitC.below_pair _ _ _⟩
  rcases g2 : (tg.toList == tg'.toList) with _ | _
  · have HR : Hid (r = false) := Lib.hid (by rw [HE.out, g1, g2]; rfl)
    clear HE HG HA
    go_enter Tryz.func10, Tryz.ntmps10
    go_wp2_with fail
    go_ret
    exact ⟨ret_bool HR.out.symm, KitC.below_pair _ _ _⟩
  rcases qg with _ | _
  · have HR : Hid (r = false) := Lib.hid (by rw [HE.out, g1, g2]; rfl)
    clear HE HA
    go_enter Tryz.func10, Tryz.ntmps10
    go_wp2_with (go_at_call 30; (with_reducible refine (HG.out _ (KitC.below_pair _ _ _)).mono ?_))
    rintro e w2 ⟨rfl, hb⟩
    have HB := Lib.hid (below_two' (KitC.below_pair _ _ _) hb)
    clear hb
    go_wp2_with fail
    go_ret
    exact ⟨ret_bool HR.out.symm, HB.out⟩
  · have HR : Hid (r = qa) := Lib.hid (by rw [HE.out, g1, g2]; rfl)
    clear HE
    go_enter Tryz.func10, Tryz.ntmps10
    go_wp2_with (go_at_call 30; (with_reducible refine (HG.out _ (KitC.below_pair _ _ _)).mono ?_))
    rintro e w2 ⟨rfl, hb⟩
    have HB := Lib.hid (KitC.pair_blocks hb)
    obtain ⟨c0, c1, c2, c3⟩ := cells_4 HB.out.1
    obtain ⟨d0, d1, d2, d3⟩ := cells_4 HB.out.2.1
    clear hb
    go_wp2_with (go_at_call 31; (with_reducible refine (HA.out _ HB.out.2.2.1).mono ?_))
    rintro e w3 ⟨rfl, hb⟩
    have HB3 := Lib.hid (below_two' HB.out.2.2.1 hb)
    clear hb
    go_wp2_with fail
    go_ret
    exact ⟨ret_bool HR.out.symm, HB3.out⟩
end Go.Proofs.YtobpcpfomdblgaaGreatDoor
