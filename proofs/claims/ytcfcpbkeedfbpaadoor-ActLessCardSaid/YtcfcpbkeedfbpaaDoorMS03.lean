/- TermLits, TermCome, TermRefDeep, TermCheck, ActIn, ActMem, ActVar, EvalOps2, joined. -/
import Derived.Test.YtcfcpbkeedfbpaaDoorMS02
import Derived.Test.YtcfcpbkeedfbpaaDoorMS01
import Derived.BigQuiet
import Derived.Lib.QuietBelow
namespace Go.Proofs.YtcfcpbkeedfbpaaDoor
open Go.RowKit TermSpec
set_option maxRecDepth 100000

theorem max_if (a b : Int) : max a b = if a < b then b else a := by split <;> omega
def DeepRel (bs : List Int) (n : Nat) (v i : Value) : Prop := ∃ k : Nat, k ≤ n ∧ i = .int .i64 k ∧ v = .int .i64 (deepest (bs.take k))
set_option maxHeartbeats 1000000 in
theorem deplit_any (o : Int) (v : Value) (bs : List Int) (w : World) (h : Rd w v (intV bs)) (hm : bs.length ≤ 4611686018427387903) (hb : ∀ b ∈ bs, b ≤ 4611686018427387903) :
    Calls Tryd.prog 73 #[.int .i64 o, v] w (SameI w (depF o bs)) := by
  obtain ⟨A, n, c, rfl, hn, hc, hA⟩ := h.ints
  have HA := Lib.hid hA
  have HN := Lib.hid hn
  have HB := Lib.hid hb
  have hm' : n ≤ 4611686018427387903 := by omega
  clear hA hn h hc hm hb
  go_enter Tryd.func73, Tryd.ntmps73
  go_wp2_with fail
  go_loop [5, 7, 10] (fun v _ i => DeepRel bs n v i) (fun _ _ i => n - (intOf i).toNat)
  case atStart => exact ⟨0, Nat.zero_le _, rfl, rfl⟩
  case round =>
    obtain ⟨k, hk, rfl, rfl⟩ := hrel
    obtain ⟨g0, g1⟩ := deepest_bd (B := 4611686018427387903) (by omega) (bs.take k) (fun b h => HB.out b (List.mem_of_mem_take h))
    by_cases hlt : k < n
    · obtain ⟨b, off, rfl, hb, hcell⟩ := HA.out (by omega)
      obtain ⟨x, hx⟩ : ∃ x, bs[k]? = some x := get_some (by have := HN.out; omega)
      have hck := hcell k x hx
      have HS : Hid (deepest (bs.take (k + 1)) = if deepest (bs.take k) < x then x else deepest (bs.take k)) := Lib.hid (by rw [take_next hx, deepest_snoc])
      obtain ⟨d, hd⟩ : ∃ d, d = deepest (bs.take k) := ⟨_, rfl⟩
      rw [← hd] at HS g0 g1 ⊢
      clear hcell hx hd
      go_wp2_with fail
      go_round
      case rel => exact ⟨k + 1, hlt, by simp, by rw [HS.out, ← max_if]⟩
      case measure => simp [intOf]; omega
    · go_wp2_with fail
      go_ret
      exact ⟨ret_int (by rw [List.take_of_length_le (by rw [HN.out]; omega)]; rfl), rfl⟩

def AllRel (bs : List Int) (n : Nat) (q : Int) (i : Value) : Prop := ∃ k : Nat, k ≤ n ∧ i = .int .i64 k ∧ (bs.take k).all (fun b => decide (b = q)) = true
theorem all_no {bs : List Int} {k : Nat} {q x : Int} (hx : bs[k]? = some x) (h : x ≠ q) : bs.all (fun b => decide (b = q)) = false := by
  rw [List.all_eq_false]
  exact ⟨x, List.mem_of_getElem? hx, by simpa using h⟩
theorem typF_of {o : Int} {bs : List Int} {b : Bool} (h : bs.all (fun b => decide (b = askT o)) = b) : typF o bs = if b then ownT o else 0 := by unfold typF; rw [h]
set_option maxHeartbeats 1000000 in
theorem typlit_any (o : Int) (v : Value) (bs : List Int) (w : World) (h : Rd w v (intV bs)) (hm : bs.length ≤ 4611686018427387903) :
    Calls Tryd.prog 37 #[.int .i64 o, v] w (SameI w (typF o bs)) := by
  obtain ⟨A, n, c, rfl, hn, hc, hA⟩ := h.ints
  have HA := Lib.hid hA
  have HN := Lib.hid hn
  have HT := Lib.hid (fun b h => typF_of (o := o) (bs := bs) (b := b) h)
  have HC := Lib.hid (fun w => types_any o w)
  obtain ⟨q, hq⟩ : ∃ q, q = askT o := ⟨_, rfl⟩
  obtain ⟨z, hz⟩ : ∃ z, z = ownT o := ⟨_, rfl⟩
  rw [← hq, ← hz] at HC HT
  have hm' : n ≤ 4611686018427387903 := by omega
  clear hA hn h hc hm hq hz
  go_enter Tryd.func37, Tryd.ntmps37
  go_wp2_with (go_at_call 38; (with_reducible refine (HC.out _).mono ?_); rintro e w' ⟨rfl, rfl⟩)
  go_loop [8, 16] (fun _ i => AllRel bs n q i) (fun _ i => n - (intOf i).toNat)
  case atStart => exact ⟨0, Nat.zero_le _, rfl, rfl⟩
  case round =>
    obtain ⟨k, hk, rfl, hall⟩ := hrel
    have HL := Lib.hid hall
    clear hall
    by_cases hlt : k < n
    · obtain ⟨b, off, rfl, hb, hcell⟩ := HA.out (by omega)
      obtain ⟨x, hx⟩ : ∃ x, bs[k]? = some x := get_some (by have := HN.out; omega)
      have hck := hcell k x hx
      have HX := Lib.hid hx
      clear hcell hx
      by_cases hxq : x = q
      · have g : (x != q) = false := by simp [hxq]
        have HQ := Lib.hid hxq
        clear hxq
        go_wp2_with fail
        go_round
        case rel => exact ⟨k + 1, hlt, by simp, by rw [take_next HX.out, List.all_append, HL.out]; simpa using HQ.out⟩
        case measure => simp [intOf]; omega
      · have g : (x != q) = true := by simp [hxq]
        have HQ := Lib.hid hxq
        clear hxq
        go_wp2_with fail
        go_ret
        exact ⟨ret_int (by rw [HT.out _ (all_no HX.out HQ.out)]; rfl), rfl⟩
    · go_wp2_with fail
      go_ret
      exact ⟨ret_int (by
        have h := HL.out
        rw [List.take_of_length_le (by rw [HN.out]; omega)] at h
        rw [HT.out _ h]; rfl), rfl⟩
end Go.Proofs.YtcfcpbkeedfbpaaDoor

namespace Go.Proofs.YtcfcpbkeedfbpaaDoor
open Go.RowKit TermSpec
set_option maxRecDepth 100000

theorem below_place {l : List Tm} {a q m k : Nat} (h : cnt q (l.drop (a + 1)) = some m) (hk : k < q) :
    ∃ x, (belows l a q)[k]? = some ((a + 1 + x : Nat) : Int) ∧ 0 ≤ endA l ((a + 1 + x : Nat) : Int) ∧ a + 1 + x ≤ max l.length (a + 1) ∧ (∀ f, (stack f (l.drop (a + 1))).take (k + 1) = (stack f (l.drop (a + 1))).take k ++ [come f (l.drop (a + 1 + x))]) := by
  have h' := h
  rw [show q = (k + 1) + (q - (k + 1)) by omega] at h'
  obtain ⟨z, _, hz, _, _⟩ := cnt_split h'
  obtain ⟨x, y, hx, hy, _⟩ := cnt_split hz
  have hle := (cnt_le hx).1
  rw [List.length_drop] at hle
  refine ⟨x, ?_, ?_, by omega, fun f => ?_⟩
  · rw [belows_get hk, hx]; rfl
  · have := (below_next h hk).1
    rw [hx] at this
    simp only [Option.getD_some] at this
    rw [this]; omega
  · have := stack_take_next (f := f) hz hx
    rwa [List.drop_drop] at this
theorem come_at {f : Int → List Int → Int} {l : List Tm} {a : Nat} {t : Tm} (ht : l[a]? = some t) : come f (l.drop a) = f t.op ((stack f (l.drop (a + 1))).take (arN t.op)) := by rw [drop_get ht, come_cons]
def ComeRel (f : Int → List Int → Int) (W : World) (l : List Tm) (a q : Nat) (p i : Value) (wr : World) : Prop :=
  ∃ k : Nat, k ≤ q ∧ i = .int .i64 k ∧ RowI W wr p ((stack f (l.drop (a + 1))).take k)

def IHDep (A : Option Addr) (n c : Nat) (l : List Tm) (K : Nat) : Prop := ∀ (a : Nat) (w : World), n ≤ a + K → Tms w (.slice A n c) l → 0 ≤ endA l a → Calls Tryd.prog 53 #[.slice A n c, .int .i64 a, .func (.func 73) #[] #[]] w (RetI w (come depF (l.drop a)))
set_option maxHeartbeats 2000000 in
theorem comeDep_step (A : Option Addr) (n c : Nat) (l : List Tm) (K : Nat) (hn : n = l.length) (hn62 : n ≤ 70368744177664) (ih : IHDep A n c l K) (a : Nat) (w : World) (hK : n ≤ a + (K + 1)) (h : Tms w (.slice A n c) l) (he : 0 ≤ endA l a) :
    Calls Tryd.prog 53 #[.slice A n c, .int .i64 a, .func (.func 73) #[] #[]] w (RetI w (come depF (l.drop a))) := by
  obtain ⟨k0, m0, hk0, hc0, _, _, _⟩ := endA_nn he
  obtain rfl : k0 = a := by omega
  obtain ⟨t, m, ht, h0, _, hm⟩ := first_of hc0
  have han := get_lt ht
  have HT := Lib.hid h
  have HM := Lib.hid hm
  have HIH := Lib.hid ih
  have HBL := Lib.hid (below_yes A n c l k0 w h hn hn62 t ht he)
  obtain ⟨b, off, rfl, hb, c0, -, -⟩ := h.at_ ht
  have HCELL := Lib.hid c0
  have HCM := Lib.hid (come_at (f := depF) ht)
  have hq := (ar_bd t.op).2
  have e0 := arN_of h0
  have hsl := stack_len (f := depF) hm
  have hdb : ∀ b ∈ (stack depF (l.drop (k0 + 1))).take (arN t.op), b ≤ 4611686018427387903 := fun b hb => by
    have h1 := (stack_depth _ b (List.mem_of_mem_take hb)).2
    rw [List.length_drop] at h1
    omega
  have hdl : ((stack depF (l.drop (k0 + 1))).take (arN t.op)).length ≤ 4611686018427387903 := by rw [List.length_take]; omega
  have HDB := Lib.hid (And.intro hdl hdb)
  clear hdb hdl
  obtain ⟨o, ho⟩ : ∃ o, o = t.op := ⟨_, rfl⟩
  rw [← ho] at HBL HCELL HCM hq e0 HM hsl c0 HDB
  obtain ⟨q, hqe⟩ : ∃ q, q = arN o := ⟨_, rfl⟩
  rw [← hqe] at HBL HCM e0 HM hsl HDB
  have hq2 : q ≤ 2 := by omega
  have hal : k0 < n := by omega
  have hal' : (k0 : Int) < n := by omega
  have hlen : l.length = n := hn.symm
  obtain ⟨i0, hi, hz0, hz1, hz2⟩ := info_parts inf_int
  have HI := Lib.hid (And.intro hi (And.intro hz0 (And.intro hz1 hz2)))
  have HLEN := Lib.hid hlen
  have HSL := Lib.hid hsl
  clear ht ho hqe hn h hc0 hk0 hm he h0 e0 han hi hz0 hz1 hz2 hq c0 ih hlen hsl
  go_enter Tryd.func53, Tryd.ntmps53
  go_wp2_with (go_at_call 67; (with_reducible refine HBL.out.mono ?_))
  rintro e w1 ⟨v2, rfl, hr2, hb1⟩
  obtain ⟨A2, n2, c2, rfl, hn2, hc2, hA2⟩ := hr2.ints
  rw [belows_length] at hn2
  obtain rfl : q = n2 := hn2
  have HA2 := Lib.hid hA2
  have HB1 := Lib.hid hb1
  clear hr2 hc2 hA2 hb1
  go_wp2_with fail
  go_loopw [7, 9, 14] (fun p _ i wr => ComeRel depF w1 l k0 q p i wr) (fun _ _ i _ => 3 - (intOf i).toNat)
  case atStart => exact ⟨0, Nat.zero_le _, rfl, RowI.nil _ _ (Below.refl _ _)⟩
  case round =>
    obtain ⟨k, hk, rfl, hrow⟩ := hrel
    have hbw := below_two' HB1.out hrow.2
    have HR := Lib.hid hrow
    have HBW := Lib.hid hbw
    clear hrow hbw
    by_cases hlt : k < q
    · obtain ⟨b2, off2, rfl, hb2, hcell⟩ := HA2.out (by omega)
      obtain ⟨x, hx, hex, hbx, hst⟩ := below_place HM.out hlt
      have hck := (HR.out.2.cell (p := ⟨b2, off2 + k, none⟩) (by exact hb2)).trans (hcell k _ hx)
      have HST := Lib.hid (hst depF)
      rw [HLEN.out] at hbx
      have HCI := Lib.hid (HIH.out (k0 + 1 + x) wr (by omega) (HT.out.keep HBW.out) hex)
      obtain ⟨y, hy⟩ : ∃ y, y = come depF (l.drop (k0 + 1 + x)) := ⟨_, rfl⟩
      rw [← hy] at HST HCI
      obtain ⟨p, hp⟩ : ∃ p, p = k0 + 1 + x := ⟨_, rfl⟩
      rw [← hp] at HCI hck
      have hl : ((stack depF (l.drop (k0 + 1))).take k).length = k := by rw [List.length_take]; have := HSL.out; omega
      have HL1 : Hid (((stack depF (l.drop (k0 + 1))).take k).length + (intV [(y : Int)]).length ≤ maxLen) := Lib.hid (by rw [hl]; simp [maxLen]; omega)
      have HL2 : Hid ((((stack depF (l.drop (k0 + 1))).take k).length + (intV [(y : Int)]).length) * 8 ≤ 140737488355328) := Lib.hid (by rw [hl]; simp; omega)
      clear hx hex hbx hst hcell hl hy hp
      go_wp2_with (go_at_call 53; (with_reducible refine HCI.out.mono ?_))
      rintro e w3 ⟨rfl, hb3⟩
      have HR3 := Lib.hid (HR.out.keep hb3)
      have HRA := Lib.hid HR3.out.1
      have HSZ : Hid (w1.heap.size ≤ w3.heap.size) := Lib.hid HR3.out.2.size
      clear hb3 hck
      go_wp2_with (at_builtin; refine wpList_append_rd _ rfl (.tmp 18) (.tmp 23) _ rfl w1.heap.size 3 i0 (.int .i64 0) 8 Tryd.underlying45 HI.out.1 HI.out.2.1 HI.out.2.2.1 HI.out.2.2.2 rfl _ _ _ rfl (HRA.out.alloc _) _ (intV [(y : Int)]) rfl (Rd.lit (cs := #[.int .i64 y]) rfl) (intV_one _) HL1.out HL2.out ?_ ?_; (have := HSZ.out; simp; omega); intro p2 w4 hrow2 hg2 _; have HR4 := Lib.hid (RowI.add HR3.out hrow2 hg2); clear hrow2 hg2)
      go_roundw
      case rel => exact ⟨k + 1, hlt, by simp, by rw [HST.out]; exact HR4.out⟩
      case measure => simp [intOf]; omega
    · obtain rfl : k = q := by omega
      obtain ⟨A3, n3, c3, rfl, hn3⟩ : ∃ A n c, u7 = .slice A n c ∧ True := by
        obtain ⟨A, c, h⟩ := own_shape HR.out.1
        exact ⟨A, _, c, h, trivial⟩
      have c0 : wr.cell? ⟨b, off + k0 * 3, none⟩ = some (.int .i64 o) := (HBW.out.cell (by exact hb)).trans HCELL.out
      have HLT := Lib.hid (deplit_any o (.slice A3 n3 c3) _ wr HR.out.read HDB.out.1 HDB.out.2)
      go_wp2_with (go_at_call 73; (with_reducible refine HLT.out.mono ?_); rintro e w' ⟨rfl, rfl⟩)
      go_ret
      exact ⟨ret_int HCM.out.symm, HBW.out⟩
theorem comeDep_all (A : Option Addr) (n c : Nat) (l : List Tm) (hn : n = l.length) (hn62 : n ≤ 70368744177664) (K : Nat) : IHDep A n c l K := by
  induction K with
  | zero =>
    intro a w hK _ he
    obtain ⟨k, m, hk, _, h1, h2, h3⟩ := endA_nn he
    omega
  | succ K ih => exact fun a w hK h he => comeDep_step A n c l K hn hn62 ih a w hK h he
theorem comeDep_any (A : Option Addr) (n c : Nat) (l : List Tm) (hn : n = l.length) (hn62 : n ≤ 70368744177664) (a : Nat) (w : World) (h : Tms w (.slice A n c) l) (he : 0 ≤ endA l a) :
    Calls Tryd.prog 53 #[.slice A n c, .int .i64 a, .func (.func 73) #[] #[]] w (RetI w (come depF (l.drop a))) := comeDep_all A n c l hn hn62 n a w (by omega) h he

def IHTyp (A : Option Addr) (n c : Nat) (l : List Tm) (K : Nat) : Prop := ∀ (a : Nat) (w : World), n ≤ a + K → Tms w (.slice A n c) l → 0 ≤ endA l a → Calls Tryd.prog 53 #[.slice A n c, .int .i64 a, .func (.func 37) #[] #[]] w (RetI w (come typF (l.drop a)))
set_option maxHeartbeats 2000000 in
theorem comeTyp_step (A : Option Addr) (n c : Nat) (l : List Tm) (K : Nat) (hn : n = l.length) (hn62 : n ≤ 70368744177664) (ih : IHTyp A n c l K) (a : Nat) (w : World) (hK : n ≤ a + (K + 1)) (h : Tms w (.slice A n c) l) (he : 0 ≤ endA l a) :
    Calls Tryd.prog 53 #[.slice A n c, .int .i64 a, .func (.func 37) #[] #[]] w (RetI w (come typF (l.drop a))) := by
  obtain ⟨k0, m0, hk0, hc0, _, _, _⟩ := endA_nn he
  obtain rfl : k0 = a := by omega
  obtain ⟨t, m, ht, h0, _, hm⟩ := first_of hc0
  have han := get_lt ht
  have HT := Lib.hid h
  have HM := Lib.hid hm
  have HIH := Lib.hid ih
  have HBL := Lib.hid (below_yes A n c l k0 w h hn hn62 t ht he)
  obtain ⟨b, off, rfl, hb, c0, -, -⟩ := h.at_ ht
  have HCELL := Lib.hid c0
  have HCM := Lib.hid (come_at (f := typF) ht)
  have hq := (ar_bd t.op).2
  have e0 := arN_of h0
  have hsl := stack_len (f := typF) hm
  have hdl : ((stack typF (l.drop (k0 + 1))).take (arN t.op)).length ≤ 4611686018427387903 := by rw [List.length_take]; omega
  have HDB := Lib.hid hdl
  clear hdl
  obtain ⟨o, ho⟩ : ∃ o, o = t.op := ⟨_, rfl⟩
  rw [← ho] at HBL HCELL HCM hq e0 HM hsl c0 HDB
  obtain ⟨q, hqe⟩ : ∃ q, q = arN o := ⟨_, rfl⟩
  rw [← hqe] at HBL HCM e0 HM hsl HDB
  have hq2 : q ≤ 2 := by omega
  have hal : k0 < n := by omega
  have hal' : (k0 : Int) < n := by omega
  have hlen : l.length = n := hn.symm
  obtain ⟨i0, hi, hz0, hz1, hz2⟩ := info_parts inf_int
  have HI := Lib.hid (And.intro hi (And.intro hz0 (And.intro hz1 hz2)))
  have HLEN := Lib.hid hlen
  have HSL := Lib.hid hsl
  clear ht ho hqe hn h hc0 hk0 hm he h0 e0 han hi hz0 hz1 hz2 hq c0 ih hlen hsl
  go_enter Tryd.func53, Tryd.ntmps53
  go_wp2_with (go_at_call 67; (with_reducible refine HBL.out.mono ?_))
  rintro e w1 ⟨v2, rfl, hr2, hb1⟩
  obtain ⟨A2, n2, c2, rfl, hn2, hc2, hA2⟩ := hr2.ints
  rw [belows_length] at hn2
  obtain rfl : q = n2 := hn2
  have HA2 := Lib.hid hA2
  have HB1 := Lib.hid hb1
  clear hr2 hc2 hA2 hb1
  go_wp2_with fail
  go_loopw [7, 9, 14] (fun p _ i wr => ComeRel typF w1 l k0 q p i wr) (fun _ _ i _ => 3 - (intOf i).toNat)
  case atStart => exact ⟨0, Nat.zero_le _, rfl, RowI.nil _ _ (Below.refl _ _)⟩
  case round =>
    obtain ⟨k, hk, rfl, hrow⟩ := hrel
    have hbw := below_two' HB1.out hrow.2
    have HR := Lib.hid hrow
    have HBW := Lib.hid hbw
    clear hrow hbw
    by_cases hlt : k < q
    · obtain ⟨b2, off2, rfl, hb2, hcell⟩ := HA2.out (by omega)
      obtain ⟨x, hx, hex, hbx, hst⟩ := below_place HM.out hlt
      have hck := (HR.out.2.cell (p := ⟨b2, off2 + k, none⟩) (by exact hb2)).trans (hcell k _ hx)
      have HST := Lib.hid (hst typF)
      rw [HLEN.out] at hbx
      have HCI := Lib.hid (HIH.out (k0 + 1 + x) wr (by omega) (HT.out.keep HBW.out) hex)
      obtain ⟨y, hy⟩ : ∃ y, y = come typF (l.drop (k0 + 1 + x)) := ⟨_, rfl⟩
      rw [← hy] at HST HCI
      obtain ⟨p, hp⟩ : ∃ p, p = k0 + 1 + x := ⟨_, rfl⟩
      rw [← hp] at HCI hck
      have hl : ((stack typF (l.drop (k0 + 1))).take k).length = k := by rw [List.length_take]; have := HSL.out; omega
      have HL1 : Hid (((stack typF (l.drop (k0 + 1))).take k).length + (intV [(y : Int)]).length ≤ maxLen) := Lib.hid (by rw [hl]; simp [maxLen]; omega)
      have HL2 : Hid ((((stack typF (l.drop (k0 + 1))).take k).length + (intV [(y : Int)]).length) * 8 ≤ 140737488355328) := Lib.hid (by rw [hl]; simp; omega)
      clear hx hex hbx hst hcell hl hy hp
      go_wp2_with (go_at_call 53; (with_reducible refine HCI.out.mono ?_))
      rintro e w3 ⟨rfl, hb3⟩
      have HR3 := Lib.hid (HR.out.keep hb3)
      have HRA := Lib.hid HR3.out.1
      have HSZ : Hid (w1.heap.size ≤ w3.heap.size) := Lib.hid HR3.out.2.size
      clear hb3 hck
      go_wp2_with (at_builtin; refine wpList_append_rd _ rfl (.tmp 18) (.tmp 23) _ rfl w1.heap.size 3 i0 (.int .i64 0) 8 Tryd.underlying45 HI.out.1 HI.out.2.1 HI.out.2.2.1 HI.out.2.2.2 rfl _ _ _ rfl (HRA.out.alloc _) _ (intV [(y : Int)]) rfl (Rd.lit (cs := #[.int .i64 y]) rfl) (intV_one _) HL1.out HL2.out ?_ ?_; (have := HSZ.out; simp; omega); intro p2 w4 hrow2 hg2 _; have HR4 := Lib.hid (RowI.add HR3.out hrow2 hg2); clear hrow2 hg2)
      go_roundw
      case rel => exact ⟨k + 1, hlt, by simp, by rw [HST.out]; exact HR4.out⟩
      case measure => simp [intOf]; omega
    · obtain rfl : k = q := by omega
      obtain ⟨A3, n3, c3, rfl, hn3⟩ : ∃ A n c, u7 = .slice A n c ∧ True := by
        obtain ⟨A, c, h⟩ := own_shape HR.out.1
        exact ⟨A, _, c, h, trivial⟩
      have c0 : wr.cell? ⟨b, off + k0 * 3, none⟩ = some (.int .i64 o) := (HBW.out.cell (by exact hb)).trans HCELL.out
      have HLT := Lib.hid (typlit_any o (.slice A3 n3 c3) _ wr HR.out.read HDB.out)
      go_wp2_with (go_at_call 37; (with_reducible refine HLT.out.mono ?_); rintro e w' ⟨rfl, rfl⟩)
      go_ret
      exact ⟨ret_int HCM.out.symm, HBW.out⟩
theorem comeTyp_all (A : Option Addr) (n c : Nat) (l : List Tm) (hn : n = l.length) (hn62 : n ≤ 70368744177664) (K : Nat) : IHTyp A n c l K := by
  induction K with
  | zero =>
    intro a w hK _ he
    obtain ⟨k, m, hk, _, h1, h2, h3⟩ := endA_nn he
    omega
  | succ K ih => exact fun a w hK h he => comeTyp_step A n c l K hn hn62 ih a w hK h he
theorem comeTyp_any (A : Option Addr) (n c : Nat) (l : List Tm) (hn : n = l.length) (hn62 : n ≤ 70368744177664) (a : Nat) (w : World) (h : Tms w (.slice A n c) l) (he : 0 ≤ endA l a) :
    Calls Tryd.prog 53 #[.slice A n c, .int .i64 a, .func (.func 37) #[] #[]] w (RetI w (come typF (l.drop a))) := comeTyp_all A n c l hn hn62 n a w (by omega) h he
end Go.Proofs.YtcfcpbkeedfbpaaDoor

namespace Go.Proofs.YtcfcpbkeedfbpaaDoor
open Go.RowKit TermSpec

def RDeepRel (W : World) (l : List Tm) (a q : Nat) (v i : Value) (wr : World) : Prop :=
  ∃ k : Nat, k ≤ q ∧ i = .int .i64 k ∧ v = .int .i64 (deepest ((stack depF (l.drop (a + 1))).take k)) ∧ Below W.heap.size W wr
def takesT (o : Int) : Int := if o = 12 ∨ 19 ≤ o then 2 else 1
theorem typR {o : Int} {bs : List Int} {b : Bool} (h0 : 0 ≤ ar o) (hl : bs.length ≤ arN o) (h : bs.all (fun b => decide (b = takesT o)) = b) : typF o bs = if b then (if o ≤ 8 then 1 else 2) else 0 := by
  obtain ⟨h1, h20⟩ := ar_in.1 h0
  have hown : ownT o = if o ≤ 8 then 1 else 2 := by
    unfold ownT
    by_cases h8 : o ≤ 8
    · rw [if_pos (by omega), if_pos h8]
    · rw [if_neg (by omega), if_neg h8]
  by_cases h9 : o = 9 ∨ o = 10 ∨ o = 11
  · have : arN o = 0 := by rcases h9 with rfl | rfl | rfl <;> rfl
    obtain rfl : bs = [] := List.eq_nil_of_length_eq_zero (by omega)
    cases h
    unfold typF
    rw [← hown]; rfl
  · have e : takesT o = askT o := by
      unfold takesT askT
      by_cases h2 : o = 12 ∨ 19 ≤ o
      · rw [if_pos h2, if_neg (by omega)]
      · rw [if_neg h2, if_pos (by omega)]
    rw [e] at h
    rw [typF_of h, hown]
def RTypRel (W : World) (l : List Tm) (a q : Nat) (tk : Int) (i : Value) (wr : World) : Prop :=
  ∃ k : Nat, k ≤ q ∧ i = .int .i64 k ∧ ((stack typF (l.drop (a + 1))).take k).all (fun b => decide (b = tk)) = true ∧ Below W.heap.size W wr
theorem all_stop {S : List Int} {k q : Nat} {y tk : Int} (hk : k < q) (h : S.take (k + 1) = S.take k ++ [y]) (hy : y ≠ tk) : (S.take q).all (fun b => decide (b = tk)) = false := by
  rw [List.all_eq_false]
  refine ⟨y, ?_, by simpa using hy⟩
  have : y ∈ S.take (k + 1) := by rw [h]; simp
  rw [show k + 1 = min (k + 1) q by omega, ← List.take_take] at this
  exact List.mem_of_mem_take this
end Go.Proofs.YtcfcpbkeedfbpaaDoor

namespace Go.Proofs.YtcfcpbkeedfbpaaDoor
open Go.RowKit TermSpec
set_option maxRecDepth 100000

theorem endA_nat0 (l : List Tm) : endA l 0 = fin 1 l 0 := endA_nat l 0
theorem whole_yes {l : List Tm} {n : Nat} (hn : n = l.length) (h40 : n ≤ 40) (h : endA l 0 = n) : wholeB l = true := by
  refine wholeB_iff.2 ⟨by omega, ?_⟩
  obtain ⟨k, m, hk, hc, he, hm, hl⟩ := endA_nn (l := l) (a := 0) (by omega)
  obtain rfl : k = 0 := by omega
  rw [List.drop_zero] at hc
  rw [hc]
  congr 1
  omega
theorem whole_no {l : List Tm} {n : Nat} (hn : n = l.length) (h : ¬ (n ≤ 40 ∧ endA l 0 = n)) : wholeB l = false := by
  rw [Bool.eq_false_iff]
  intro hw
  obtain ⟨h1, h2⟩ := wholeB_iff.1 hw
  refine h ⟨by omega, ?_⟩
  have := endA_some (l := l) (a := 0) (m := l.length) (by simpa using h2)
  rw [show (0 : Int) = ((0 : Nat) : Int) from rfl, this]
  omega
theorem tell_no {f : Int → List Int → Int} {l : List Tm} (h : wholeB l = false) : tell f l = 0 := by unfold tell; rw [h]; rfl
theorem tell_yes {f : Int → List Int → Int} {l : List Tm} (h : wholeB l = true) : tell f l = come f l := by unfold tell; rw [h]; rfl

theorem comeDep_zero (A : Option Addr) (n c : Nat) (l : List Tm) (hn : n = l.length) (hn62 : n ≤ 70368744177664) (w : World) (h : Tms w (.slice A n c) l) (he : 0 ≤ endA l 0) :
    Calls Tryd.prog 53 #[.slice A n c, .int .i64 0, .func (.func 73) #[] #[]] w (RetI w (come depF l)) := by
  have := comeDep_any A n c l hn hn62 0 w h he
  rwa [List.drop_zero] at this
set_option maxHeartbeats 1000000 in
theorem wholeDep_any (A : Option Addr) (n c : Nat) (l : List Tm) (hn : n = l.length) (hn62 : n ≤ 70368744177664) (w : World) (h : Tms w (.slice A n c) l) :
    Calls Tryd.prog 36 #[.slice A n c, .func (.func 73) #[] #[]] w (RetI w (tell depF l)) := by
  by_cases h40 : 40 < n
  · have HE := Lib.hid (tell_no (f := depF) (whole_no hn (by omega)))
    clear hn h
    go_enter Tryd.func36, Tryd.ntmps36
    go_wp2_with fail
    go_ret
    exact ⟨ret_int HE.out.symm, Below.refl _ _⟩
  · have hE := end_any A n c l 0 w h hn (by omega)
    have HY : Hid (endA l 0 = n → Calls Tryd.prog 53 #[.slice A n c, .int .i64 0, .func (.func 73) #[] #[]] w (RetI w (come depF l)) ∧ tell depF l = come depF l) := Lib.hid (fun h0 => ⟨comeDep_zero A n c l hn hn62 w h (by omega), tell_yes (whole_yes hn (by omega) h0)⟩)
    have HN : Hid (endA l 0 ≠ n → tell depF l = 0) := Lib.hid (fun h0 => tell_no (whole_no hn (fun h => h0 h.2)))
    obtain ⟨r, hr⟩ : ∃ r, r = endA l 0 := ⟨_, rfl⟩
    rw [← hr] at hE HY HN
    have HE := Lib.hid hE
    clear hr hE hn h
    by_cases hrn : r = n
    · have g : (r != (n : Int)) = false := by simp [hrn]
      have HC := Lib.hid (HY.out hrn).1
      have HV := Lib.hid (HY.out hrn).2
      clear hrn HN HY
      go_enter Tryd.func36, Tryd.ntmps36
      go_wp2_with (first
        | (go_at_call 52; (with_reducible refine HE.out.mono ?_); rintro e w' ⟨rfl, rfl⟩)
        | (go_at_call 53; (with_reducible refine HC.out.mono ?_)))
      rintro e w1 ⟨rfl, hb1⟩
      go_wp2_with fail
      go_ret
      exact ⟨ret_int HV.out.symm, hb1⟩
    · have g : (r != (n : Int)) = true := by simp [hrn]
      have HV := Lib.hid (HN.out hrn)
      clear hrn HN HY
      go_enter Tryd.func36, Tryd.ntmps36
      go_wp2_with (go_at_call 52; (with_reducible refine HE.out.mono ?_); rintro e w' ⟨rfl, rfl⟩)
      go_ret
      exact ⟨ret_int HV.out.symm, Below.refl _ _⟩
theorem depth_any (A : Option Addr) (n c : Nat) (l : List Tm) (hn : n = l.length) (hn62 : n ≤ 70368744177664) (w : World) (h : Tms w (.slice A n c) l) :
    Calls Tryd.prog 49 #[.slice A n c] w (RetI w (depth l)) := by
  have HC := Lib.hid (wholeDep_any A n c l hn hn62 w h)
  obtain ⟨r, hr⟩ : ∃ r, r = tell depF l := ⟨_, rfl⟩
  have HR : Hid (depth l = r) := Lib.hid hr.symm
  rw [← hr] at HC
  clear hr hn h
  go_enter Tryd.func49, Tryd.ntmps49
  go_wp2_with (go_at_call 36; (with_reducible refine HC.out.mono ?_))
  rintro e w1 ⟨rfl, hb1⟩
  go_wp2_with fail
  go_ret
  exact ⟨ret_int HR.out.symm, hb1⟩

theorem comeTyp_zero (A : Option Addr) (n c : Nat) (l : List Tm) (hn : n = l.length) (hn62 : n ≤ 70368744177664) (w : World) (h : Tms w (.slice A n c) l) (he : 0 ≤ endA l 0) :
    Calls Tryd.prog 53 #[.slice A n c, .int .i64 0, .func (.func 37) #[] #[]] w (RetI w (come typF l)) := by
  have := comeTyp_any A n c l hn hn62 0 w h he
  rwa [List.drop_zero] at this
set_option maxHeartbeats 1000000 in
theorem wholeTyp_any (A : Option Addr) (n c : Nat) (l : List Tm) (hn : n = l.length) (hn62 : n ≤ 70368744177664) (w : World) (h : Tms w (.slice A n c) l) :
    Calls Tryd.prog 36 #[.slice A n c, .func (.func 37) #[] #[]] w (RetI w (tell typF l)) := by
  by_cases h40 : 40 < n
  · have HE := Lib.hid (tell_no (f := typF) (whole_no hn (by omega)))
    clear hn h
    go_enter Tryd.func36, Tryd.ntmps36
    go_wp2_with fail
    go_ret
    exact ⟨ret_int HE.out.symm, Below.refl _ _⟩
  · have hE := end_any A n c l 0 w h hn (by omega)
    have HY : Hid (endA l 0 = n → Calls Tryd.prog 53 #[.slice A n c, .int .i64 0, .func (.func 37) #[] #[]] w (RetI w (come typF l)) ∧ tell typF l = come typF l) := Lib.hid (fun h0 => ⟨comeTyp_zero A n c l hn hn62 w h (by omega), tell_yes (whole_yes hn (by omega) h0)⟩)
    have HN : Hid (endA l 0 ≠ n → tell typF l = 0) := Lib.hid (fun h0 => tell_no (whole_no hn (fun h => h0 h.2)))
    obtain ⟨r, hr⟩ : ∃ r, r = endA l 0 := ⟨_, rfl⟩
    rw [← hr] at hE HY HN
    have HE := Lib.hid hE
    clear hr hE hn h
    by_cases hrn : r = n
    · have g : (r != (n : Int)) = false := by simp [hrn]
      have HC := Lib.hid (HY.out hrn).1
      have HV := Lib.hid (HY.out hrn).2
      clear hrn HN HY
      go_enter Tryd.func36, Tryd.ntmps36
      go_wp2_with (first
        | (go_at_call 52; (with_reducible refine HE.out.mono ?_); rintro e w' ⟨rfl, rfl⟩)
        | (go_at_call 53; (with_reducible refine HC.out.mono ?_)))
      rintro e w1 ⟨rfl, hb1⟩
      go_wp2_with fail
      go_ret
      exact ⟨ret_int HV.out.symm, hb1⟩
    · have g : (r != (n : Int)) = true := by simp [hrn]
      have HV := Lib.hid (HN.out hrn)
      clear hrn HN HY
      go_enter Tryd.func36, Tryd.ntmps36
      go_wp2_with (go_at_call 52; (with_reducible refine HE.out.mono ?_); rintro e w' ⟨rfl, rfl⟩)
      go_ret
      exact ⟨ret_int HV.out.symm, Below.refl _ _⟩
theorem typ_any (A : Option Addr) (n c : Nat) (l : List Tm) (hn : n = l.length) (hn62 : n ≤ 70368744177664) (w : World) (h : Tms w (.slice A n c) l) :
    Calls Tryd.prog 23 #[.slice A n c] w (RetI w (typ l)) := by
  have HC := Lib.hid (wholeTyp_any A n c l hn hn62 w h)
  obtain ⟨r, hr⟩ : ∃ r, r = tell typF l := ⟨_, rfl⟩
  have HR : Hid (typ l = r) := Lib.hid hr.symm
  rw [← hr] at HC
  clear hr hn h
  go_enter Tryd.func23, Tryd.ntmps23
  go_wp2_with (go_at_call 36; (with_reducible refine HC.out.mono ?_))
  rintro e w1 ⟨rfl, hb1⟩
  go_wp2_with fail
  go_ret
  exact ⟨ret_int HR.out.symm, hb1⟩

def AllMay (W : World) (l : List Tm) (n : Nat) (i : Value) (wr : World) : Prop := ∃ k : Nat, k ≤ n ∧ i = .int .i64 k ∧ (l.take k).all mayB = true ∧ Below W.heap.size W wr
theorem may_stop {l : List Tm} {k : Nat} {t : Tm} (ht : l[k]? = some t) (h : mayB t = false) : l.all mayB = false := by
  rw [List.all_eq_false]
  exact ⟨t, List.mem_of_getElem? ht, by simp [h]⟩
theorem may_next {l : List Tm} {k : Nat} {t : Tm} (ht : l[k]? = some t) (h0 : (l.take k).all mayB = true) (h : mayB t = true) : (l.take (k + 1)).all mayB = true := by
  rw [take_next ht, List.all_append, h0]; simpa using h
theorem chk_full {l : List Tm} (h : 40 < l.length) : chk l = 8 := by unfold chk; rw [if_pos h]
theorem chk_none {l : List Tm} (h : ¬ 40 < l.length) (h1 : wholeB l = false) : chk l = 1 := by unfold chk; rw [if_neg h, if_pos h1]
theorem chk_may {l : List Tm} (h : ¬ 40 < l.length) (h1 : wholeB l = true) (h2 : l.all mayB = false) : chk l = 1 := by unfold chk; rw [if_neg h, if_neg (by simp [h1]), if_pos h2]
theorem chk_last {l : List Tm} (h : ¬ 40 < l.length) (h1 : wholeB l = true) (h2 : l.all mayB = true) : chk l = if 12 < depth l then 6 else 0 := by unfold chk; rw [if_neg h, if_neg (by simp [h1]), if_neg (by simp [h2])]

set_option maxHeartbeats 2000000 in
theorem check_any (A : Option Addr) (n c : Nat) (l : List Tm) (hn : n = l.length) (hn62 : n ≤ 70368744177664) (hs : Small l) (w : World) (h : Tms w (.slice A n c) l) :
    Calls Tryd.prog 33 #[.slice A n c] w (RetI w (chk l)) := by
  by_cases h40 : 40 < n
  · have HE := Lib.hid (chk_full (l := l) (by omega))
    clear hn h
    go_enter Tryd.func33, Tryd.ntmps33
    go_wp2_with fail
    go_ret
    exact ⟨ret_int HE.out.symm, Below.refl _ _⟩
  have HD := Lib.hid (depth_any A n c l hn hn62 w h)
  have h40' : ¬ 40 < l.length := by omega
  cases hw : wholeB l with
  | false =>
    have hd : depth l = 0 := depth_zero.2 hw
    rw [hd] at HD
    have HE := Lib.hid (chk_none h40' hw)
    clear hn h hw hd h40'
    go_enter Tryd.func33, Tryd.ntmps33
    go_wp2_with (go_at_call 49; (with_reducible refine HD.out.mono ?_))
    rintro e w1 ⟨rfl, hb1⟩
    go_wp2_with fail
    go_ret
    exact ⟨ret_int HE.out.symm, hb1⟩
  | true =>
    have hd0 : 1 ≤ depth l := by unfold depth; rw [tell_yes hw]; exact (come_depth (wholeB_iff.1 hw).2).1
    have HL := Lib.hid (fun h2 => chk_last h40' hw h2)
    have HM := Lib.hid (fun h2 => chk_may h40' hw h2)
    obtain ⟨d, hd⟩ : ∃ d, d = depth l := ⟨_, rfl⟩
    rw [← hd] at HD HL hd0
    have gd : (d == 0) = false := by simp; omega
    have HT := Lib.hid h
    have HN := Lib.hid hn
    have HS := Lib.hid hs
    clear hn h hw hd h40' hs
    go_enter Tryd.func33, Tryd.ntmps33
    go_wp2_with (go_at_call 49; (with_reducible refine HD.out.mono ?_))
    rintro e w1 ⟨rfl, hb1⟩
    have HB1 := Lib.hid hb1
    clear hb1
    go_wp2_with fail
    go_loopw [5, 15] (fun _ i wr => AllMay w l n i wr) (fun _ i _ => n - (intOf i).toNat)
    case atStart => exact ⟨0, Nat.zero_le _, rfl, rfl, HB1.out⟩
    case round =>
      obtain ⟨k, hk, rfl, hall, hbw⟩ := hrel
      have HA := Lib.hid hall
      have HB := Lib.hid hbw
      clear hall hbw
      by_cases hlt : k < n
      · obtain ⟨t, ht⟩ : ∃ t, l[k]? = some t := get_some (by rw [← HN.out]; exact hlt)
        obtain ⟨b, off, rfl, hb, c0, c1, c2⟩ := (HT.out.keep HB.out).at_ ht
        have HC : Hid (∀ w, Calls Tryd.prog 50 #[.agg #[.int .i64 t.op, .int .i64 t.n, .string t.s]] w (RetB w (mayB t))) := Lib.hid (fun w => may_any t w (HS.out t (List.mem_of_getElem? ht)))
        have HX := Lib.hid ht
        obtain ⟨q, hq⟩ : ∃ q, q = mayB t := ⟨_, rfl⟩
        rw [← hq] at HC
        have HQ := Lib.hid hq.symm
        clear ht hq
        cases q with
        | true =>
          go_wp2_with (go_at_call 50; (with_reducible refine (HC.out _).mono ?_))
          rintro e w2 ⟨rfl, hb2⟩
          have HB2 := Lib.hid (below_two' (HB.out.alloc HB.out.size _) hb2)
          clear hb2 c0 c1 c2
          go_wp2_with fail
          go_roundw
          case rel => exact ⟨k + 1, hlt, by simp, may_next HX.out HA.out HQ.out, HB2.out⟩
          case measure => simp [intOf]; omega
        | false =>
          go_wp2_with (go_at_call 50; (with_reducible refine (HC.out _).mono ?_))
          rintro e w2 ⟨rfl, hb2⟩
          have HB2 := Lib.hid (below_two' (HB.out.alloc HB.out.size _) hb2)
          clear hb2 c0 c1 c2
          go_wp2_with fail
          go_ret
          exact ⟨ret_int (HM.out (may_stop HX.out HQ.out)).symm, HB2.out⟩
      · have HE : Hid (chk l = if 12 < d then 6 else 0) := Lib.hid (HL.out (by have := HA.out; rwa [List.take_of_length_le (by rw [← HN.out]; omega)] at this))
        by_cases h12 : 12 < d
        all_goals
          go_wp2_with fail
          go_ret
          exact ⟨ret_int (by rw [HE.out]; first | rw [if_pos h12] | rw [if_neg (by omega)]), HB.out⟩

end Go.Proofs.YtcfcpbkeedfbpaaDoor

namespace Go.Proofs.YtcfcpbkeedfbpaaDoor
open Go.RowKit TermSpec EvalSpec ActSpec NamesSpec

/-- An act, and where its expression lies. -/
structure AP where
  a : Ac
  xA : Option Addr
  xn : Nat
  xc : Nat
def acV (p : AP) : List Value := [.string p.a.s, .bool p.a.any, .slice p.xA p.xn p.xc]
def acsV (l : List AP) : List Value := l.flatMap acV
theorem acV_length (p : AP) : (acV p).length = 3 := rfl
theorem acsV_length (l : List AP) : (acsV l).length = l.length * 3 := flat_length acV_length l
theorem acV_one (p : AP) : ∀ u ∈ acV p, u.oneCell' = true := by simp [acV, Value.oneCell']
theorem acsV_one (l : List AP) : ∀ u ∈ acsV l, u.oneCell' = true := by
  intro u hu
  obtain ⟨t, _, h⟩ := List.mem_flatMap.1 hu
  exact acV_one t u h
theorem acsV_append (a b : List AP) : acsV a ++ acsV b = acsV (a ++ b) := by unfold acsV; rw [List.flatMap_append]
theorem acsV_get {l : List AP} {i : Nat} {p : AP} (h : l[i]? = some p) : (acsV l)[i * 3]? = some (.string p.a.s) ∧ (acsV l)[i * 3 + 1]? = some (.bool p.a.any) ∧ (acsV l)[i * 3 + 2]? = some (.slice p.xA p.xn p.xc) :=
  ⟨flat_get (j := 0) acV_length h (by omega), flat_get (j := 1) acV_length h (by omega), flat_get (j := 2) acV_length h (by omega)⟩
/-- The value is a slice of these acts. -/
def Acs (w : World) (v : Value) (l : List Ac) : Prop := ∃ ps : List AP, ps.map (·.a) = l ∧ Rdk 3 w v l.length (acsV ps) ∧ ∀ p ∈ ps, Tms w (.slice p.xA p.xn p.xc) p.a.x
theorem Acs.keep {w w' : World} {v : Value} {l : List Ac} (h : Acs w v l) (hb : Below w.heap.size w w') : Acs w' v l := by
  obtain ⟨ps, hm, hr, hx⟩ := h
  exact ⟨ps, hm, hr.keep hb, fun p hp => (hx p hp).keep hb⟩
theorem Acs.shape {w : World} {v : Value} {l : List Ac} (h : Acs w v l) : ∃ A n c, v = .slice A n c ∧ n = l.length ∧ n ≤ c := by
  obtain ⟨ps, hm, ⟨A, c, hv, hc, _⟩, _⟩ := h
  exact ⟨A, _, c, hv, rfl, hc⟩
theorem Acs.len {w : World} {A : Option Addr} {n c : Nat} {l : List Ac} (h : Acs w (.slice A n c) l) : n = l.length ∧ n ≤ c := by
  obtain ⟨A', n', c', heq, hn, hc⟩ := h.shape
  cases heq
  exact ⟨hn, hc⟩
theorem Acs.at_ {w : World} {A : Option Addr} {n c : Nat} {l : List Ac} {i : Nat} {a : Ac} (h : Acs w (.slice A n c) l) (hi : l[i]? = some a) :
    ∃ b off xA xn xc, A = some ⟨b, off, none⟩ ∧ b < w.heap.size ∧ Tms w (.slice xA xn xc) a.x ∧ w.cell? ⟨b, off + i * 3, none⟩ = some (.string a.s) ∧ w.cell? ⟨b, off + i * 3 + 1, none⟩ = some (.bool a.any) ∧ w.cell? ⟨b, off + i * 3 + 2, none⟩ = some (.slice xA xn xc) := by
  obtain ⟨ps, hm, ⟨A', c', heq, hc, hl, hA⟩, hx⟩ := h
  cases heq
  subst hm
  have := get_lt hi
  obtain ⟨b, off, rfl, hb, hcell⟩ := hA (by omega)
  rw [List.getElem?_map] at hi
  cases hp : ps[i]? with
  | none => rw [hp] at hi; cases hi
  | some p =>
    rw [hp] at hi
    cases hi
    obtain ⟨g0, g1, g2⟩ := acsV_get hp
    exact ⟨b, off, p.xA, p.xn, p.xc, rfl, hb, hx p (List.mem_of_getElem? hp), hcell _ _ g0, by rw [Nat.add_assoc]; exact hcell _ _ g1, by rw [Nat.add_assoc]; exact hcell _ _ g2⟩
/-- Texts that fit. -/
def SmallA (a : Ac) : Prop := a.s.size ≤ 9223372036854775807 ∧ Small a.x ∧ a.x.length ≤ 4398046511104

theorem oneA_name {a : Ac} (h : isName a.s.data.toList = false) : oneA a = 1 := by unfold oneA; rw [if_pos h]
theorem oneA_expr {a : Ac} (h : isName a.s.data.toList = true) (h2 : a.any = false) : oneA a = chk a.x := by unfold oneA; rw [if_neg (by simp [h]), if_pos h2]
theorem oneA_any {a : Ac} (h : isName a.s.data.toList = true) (h2 : a.any = true) : oneA a = if a.x.length = 0 then 0 else 1 := by unfold oneA; rw [if_neg (by simp [h]), if_neg (by simp [h2])]

end Go.Proofs.YtcfcpbkeedfbpaaDoor

namespace Go.Proofs.YtcfcpbkeedfbpaaDoor
open Go.RowKit Go.Sort TermSpec EvalSpec ActSpec
set_option maxRecDepth 100000

def v4V (x : V4) : List Value := [.int .i64 x.a, .int .i64 x.b, .int .i64 x.c, .int .i64 x.d]
def v4sV (l : List V4) : List Value := l.flatMap v4V
theorem v4V_length (x : V4) : (v4V x).length = 4 := rfl
theorem v4sV_length (l : List V4) : (v4sV l).length = l.length * 4 := flat_length v4V_length l
theorem v4V_one (x : V4) : ∀ u ∈ v4V x, u.oneCell' = true := by simp [v4V, Value.oneCell']
theorem v4sV_one (l : List V4) : ∀ u ∈ v4sV l, u.oneCell' = true := by
  intro u hu
  obtain ⟨t, _, h⟩ := List.mem_flatMap.1 hu
  exact v4V_one t u h
theorem v4sV_append (a b : List V4) : v4sV a ++ v4sV b = v4sV (a ++ b) := by unfold v4sV; rw [List.flatMap_append]
theorem v4sV_get {l : List V4} {i : Nat} {x : V4} (h : l[i]? = some x) : (v4sV l)[i * 4]? = some (.int .i64 x.a) ∧ (v4sV l)[i * 4 + 1]? = some (.int .i64 x.b) ∧ (v4sV l)[i * 4 + 2]? = some (.int .i64 x.c) ∧ (v4sV l)[i * 4 + 3]? = some (.int .i64 x.d) :=
  ⟨flat_get (j := 0) v4V_length h (by omega), flat_get (j := 1) v4V_length h (by omega), flat_get (j := 2) v4V_length h (by omega), flat_get (j := 3) v4V_length h (by omega)⟩
abbrev v4A (x : V4) : Value := .agg #[.int .i64 x.a, .int .i64 x.b, .int .i64 x.c, .int .i64 x.d]
/-- The value is a slice of these lists of values. -/
def V4s (w : World) (v : Value) (l : List V4) : Prop := ∃ n, n = l.length ∧ Rdk 4 w v n (v4sV l)
theorem V4s.keep {w w' : World} {v : Value} {l : List V4} (h : V4s w v l) (hb : Below w.heap.size w w') : V4s w' v l := by
  obtain ⟨n, hn, h⟩ := h
  exact ⟨n, hn, h.keep hb⟩
theorem V4s.shape {w : World} {v : Value} {l : List V4} (h : V4s w v l) : ∃ A n c, v = .slice A n c ∧ n = l.length ∧ n ≤ c := by
  obtain ⟨n, hn, A, c, hv, hc, _⟩ := h
  exact ⟨A, n, c, hv, hn, hc⟩
theorem V4s.rdk {w : World} {A : Option Addr} {n c : Nat} {l : List V4} (h : V4s w (.slice A n c) l) : Rdk 4 w (.slice A n c) l.length (v4sV l) := by
  obtain ⟨m, hm, hR⟩ := h
  rw [← hm]; exact hR
theorem V4s.rdk' {w : World} {v : Value} {l : List V4} (h : V4s w v l) : Rdk 4 w v l.length (v4sV l) := by
  obtain ⟨m, hm, hR⟩ := h
  rw [← hm]; exact hR
theorem V4s.at_ {w : World} {A : Option Addr} {n c : Nat} {l : List V4} {i : Nat} {x : V4} (h : V4s w (.slice A n c) l) (hi : l[i]? = some x) :
    ∃ b off, A = some ⟨b, off, none⟩ ∧ b < w.heap.size ∧ w.cell? ⟨b, off + i * 4, none⟩ = some (.int .i64 x.a) ∧ w.cell? ⟨b, off + i * 4 + 1, none⟩ = some (.int .i64 x.b) ∧ w.cell? ⟨b, off + i * 4 + 2, none⟩ = some (.int .i64 x.c) ∧ w.cell? ⟨b, off + i * 4 + 3, none⟩ = some (.int .i64 x.d) := by
  obtain ⟨m, hm, A', c', heq, hc, hl, hA⟩ := h
  cases heq
  have := get_lt hi
  obtain ⟨b, off, rfl, hb, hcell⟩ := hA (by omega)
  obtain ⟨g0, g1, g2, g3⟩ := v4sV_get hi
  exact ⟨b, off, rfl, hb, hcell _ _ g0, by rw [Nat.add_assoc]; exact hcell _ _ g1, by rw [Nat.add_assoc]; exact hcell _ _ g2, by rw [Nat.add_assoc]; exact hcell _ _ g3⟩

def LessRel (x y : V4) (i : Value) (W w : World) : Prop := ∃ k : Nat, k ≤ 4 ∧ i = .int .i64 k ∧ (∀ j, j < k → x.get j = y.get j) ∧ Below W.heap.size W w
theorem lessV_at {x y : V4} {k : Nat} (hk : k < 4) (h : ∀ j, j < k → x.get j = y.get j) (hne : x.get k ≠ y.get k) : lessV x y = decide (x.get k < y.get k) := by
  unfold lessV
  rcases (show k = 0 ∨ k = 1 ∨ k = 2 ∨ k = 3 by omega) with rfl | rfl | rfl | rfl
  · rw [if_pos (show x.a ≠ y.a from hne)]; rfl
  · rw [if_neg (by have : x.a = y.a := h 0 (by omega); simp [this]), if_pos (show x.b ≠ y.b from hne)]; rfl
  · rw [if_neg (by have : x.a = y.a := h 0 (by omega); simp [this]), if_neg (by have : x.b = y.b := h 1 (by omega); simp [this]), if_pos (show x.c ≠ y.c from hne)]; rfl
  · rw [if_neg (by have : x.a = y.a := h 0 (by omega); simp [this]), if_neg (by have : x.b = y.b := h 1 (by omega); simp [this]), if_neg (by have : x.c = y.c := h 2 (by omega); simp [this])]; rfl
theorem lessV_same {x y : V4} (h : ∀ j, j < 4 → x.get j = y.get j) : lessV x y = false := by
  have : x = y := by
    obtain ⟨a, b, c, d⟩ := x
    obtain ⟨a', b', c', d'⟩ := y
    have h0 : a = a' := h 0 (by omega)
    have h1 : b = b' := h 1 (by omega)
    have h2 : c = c' := h 2 (by omega)
    have h3 : d = d' := h 3 (by omega)
    rw [h0, h1, h2, h3]
  rw [this]
  exact lessV_irr y
theorem v4_cell {w : World} {b : Nat} {T : TypeId} {x : V4} (h : w.heap[b]? = some (.cells #[.int .i64 x.a, .int .i64 x.b, .int .i64 x.c, .int .i64 x.d] T (0, 0))) {k : Nat} (hk : k < 4) : w.cell? ⟨b, 0 + k, none⟩ = some (.int .i64 (x.get k)) := by
  obtain ⟨h0, h1, h2, h3⟩ := cells_4 h
  rcases (show k = 0 ∨ k = 1 ∨ k = 2 ∨ k = 3 by omega) with rfl | rfl | rfl | rfl
  · exact h0
  · exact h1
  · exact h2
  · exact h3
set_option maxHeartbeats 1000000 in
theorem rless_any (x y : V4) (w : World) : Calls Tryd.prog 5 #[v4A x, v4A y] w (RetB w (lessV x y)) := by
  have HB := Lib.hid (KitC.below_pair w (.cells #[.int .i64 x.a, .int .i64 x.b, .int .i64 x.c, .int .i64 x.d] 22) (.cells #[.int .i64 y.a, .int .i64 y.b, .int .i64 y.c, .int .i64 y.d] 22))
  obtain ⟨B1, B2, _, _⟩ := KitC.pair_blocks (Below.refl ((w.alloc (.cells #[.int .i64 x.a, .int .i64 x.b, .int .i64 x.c, .int .i64 x.d] 22)).alloc (.cells #[.int .i64 y.a, .int .i64 y.b, .int .i64 y.c, .int .i64 y.d] 22)).heap.size ((w.alloc (.cells #[.int .i64 x.a, .int .i64 x.b, .int .i64 x.c, .int .i64 x.d] 22)).alloc (.cells #[.int .i64 y.a, .int .i64 y.b, .int .i64 y.c, .int .i64 y.d] 22)))
  obtain ⟨w1, hw1⟩ : ∃ w1, (w.alloc (.cells #[.int .i64 x.a, .int .i64 x.b, .int .i64 x.c, .int .i64 x.d] 22)).alloc (.cells #[.int .i64 y.a, .int .i64 y.b, .int .i64 y.c, .int .i64 y.d] 22) = w1 := ⟨_, rfl⟩
  rw [hw1] at HB B1 B2
  have HB1 := Lib.hid B1
  have HB2 := Lib.hid B2
  have HW := Lib.hid hw1
  clear hw1 B1 B2
  go_enter Tryd.func5, Tryd.ntmps5
  go_wp2_with fail
  rw [HW.out]
  go_loopw [5] (fun i wr => LessRel x y i w1 wr) (fun i _ => 4 - (intOf i).toNat)
  case atStart => exact ⟨0, Nat.zero_le _, rfl, by simp, Below.refl _ _⟩
  case round =>
    obtain ⟨k, hk, rfl, hsame, hbw⟩ := hrel
    have HSAME := Lib.hid hsame
    have HBW := Lib.hid hbw
    by_cases hlt : k < 4
    · have c1 := v4_cell (KitC.block_on HB1.out hbw) hlt
      have c2 := v4_cell (KitC.block_on HB2.out hbw) hlt
      rw [Nat.zero_add] at c1 c2
      obtain ⟨p, hp⟩ : ∃ p, p = x.get k := ⟨_, rfl⟩
      obtain ⟨q, hq⟩ : ∃ q, q = y.get k := ⟨_, rfl⟩
      rw [← hp] at c1
      rw [← hq] at c2
      have HP := Lib.hid hp
      have HQ := Lib.hid hq
      have hkI : (k : Int) < 4 := by omega
      clear hp hq hsame hbw
      by_cases hpq : p = q
      · have g : (p != q) = false := by simp [hpq]
        have HE := Lib.hid hpq
        clear hpq
        go_wp2_with fail
        go_big_quiet (fail)
        go_wp2_with fail
        go_roundw
        case rel =>
          refine ⟨k + 1, by omega, by go_num, fun j hj => ?_, below_drewN HBW.out _⟩
          rcases Nat.lt_or_ge j k with h | h
          · exact HSAME.out j h
          · rw [show j = k by omega, ← HP.out, ← HQ.out]; exact HE.out
        case measure => simp [intOf]; omega
      · have g : (p != q) = true := by simp [hpq]
        have HL : Hid (lessV x y = decide (p < q)) := Lib.hid (by rw [HP.out, HQ.out]; exact lessV_at hlt HSAME.out (by rw [← HP.out, ← HQ.out]; exact hpq))
        clear hpq
        go_wp2_with fail
        go_big_quiet (fail)
        go_wp2_with fail
        go_big_quiet (fail)
        go_wp2_with fail
        go_ret
        exact ⟨ret_bool HL.out.symm, below_two' HB.out (below_drewN (below_drewN HBW.out _) _)⟩
    · have HL : Hid (lessV x y = false) := Lib.hid (lessV_same fun j hj => HSAME.out j (by omega))
      have hkI : ¬ (k : Int) < 4 := by omega
      clear hsame hbw
      go_wp2_with fail
      go_ret
      exact ⟨ret_bool HL.out.symm, below_two' HB.out HBW.out⟩
end Go.Proofs.YtcfcpbkeedfbpaaDoor

namespace Go.Proofs.YtcfcpbkeedfbpaaDoor
open Go.RowKit TermSpec EvalSpec ActSpec NamesSpec Go.Lib

theorem varOf_none {e : Ev} {a : Ac} (h : varOf e a = none) : idxOfS (vnames e) a.s = -1 := by
  by_cases hm : a.s ∈ vnames e
  · obtain ⟨k, h1, h2⟩ := first_at hm
    unfold varOf at h
    have hk := get_lt h1
    rw [vnames_length] at hk
    simp only [place_hit h1 h2] at h
    rw [if_neg (by omega), Int.toNat_natCast, List.getElem?_eq_getElem hk] at h
    cases h
  · exact place_miss hm
theorem varOf_some {e : Ev} {a : Ac} {i : Nat} {v : Vr} (h : varOf e a = some (i, v)) : idxOfS (vnames e) a.s = i ∧ e.vars[i]? = some v := by
  refine ⟨?_, varOf_lt h⟩
  unfold varOf at h
  simp only at h
  split at h
  · cases h
  · rename_i hp
    cases hv : e.vars[(idxOfS (vnames e) a.s).toNat]? with
    | none => rw [hv] at h; cases h
    | some u => rw [hv] at h; cases h; omega
theorem badA_none {e : Ev} {a : Ac} (h : varOf e a = none) : badA e a = 7 := by unfold badA; rw [h]
theorem badA_any {e : Ev} {a : Ac} {i : Nat} {v : Vr} (h : varOf e a = some (i, v)) (ha : a.any = true) : badA e a = if spanB v then 0 else 1 := by unfold badA; rw [h]; simp only; rw [if_pos ha]
theorem badA_chk {e : Ev} {a : Ac} {i : Nat} {v : Vr} (h : varOf e a = some (i, v)) (ha : a.any = false) (hc : chkE e a.x ≠ 0) : badA e a = chkE e a.x := by unfold badA; rw [h]; simp only; rw [if_neg (by simp [ha]), if_pos hc]
theorem badA_typ {e : Ev} {a : Ac} {i : Nat} {v : Vr} (h : varOf e a = some (i, v)) (ha : a.any = false) (hc : chkE e a.x = 0) : badA e a = if typ a.x = 1 then 0 else 4 := by unfold badA; rw [h]; simp only; rw [if_neg (by simp [ha]), if_neg (by simp [hc])]
/-- What an act answers: lists, and what is told. -/
def RetVE (W : World) (p : Int × List V4) (e : Ending) (w' : World) : Prop := ∃ v, e = .returned (.tuple #[v, .int .i64 p.1]) ∧ V4s w' v p.2 ∧ Below W.heap.size W w'
theorem v4s_nil (w : World) : V4s w (.slice none 0 0) [] := ⟨0, rfl, Rdk.nil 4 w⟩

/-- Bounds that are ints. -/
def VFit (v : Vr) : Prop := -9223372036854775808 ≤ v.lo ∧ v.lo ≤ 9223372036854775807 ∧ -9223372036854775808 ≤ v.hi ∧ v.hi ≤ 9223372036854775807
theorem u64_span {lo hi : Int} (h1 : -9223372036854775808 ≤ lo) (h2 : hi ≤ 9223372036854775807) (h : lo ≤ hi) : IntKind.u64.wrap (IntKind.u64.wrap hi - IntKind.u64.wrap lo) = hi - lo := by
  simp only [IntKind.wrap_u64]
  omega
end Go.Proofs.YtcfcpbkeedfbpaaDoor

namespace Go.Proofs.YtcfcpbkeedfbpaaDoor
open Go.RowKit TermSpec EvalSpec ValSpec
set_option maxRecDepth 100000

theorem ofTwo_cmp (o x y : Int) (w : World) (hc1 : 13 ≤ o) (hc2 : o ≤ 18) : Calls Tryd.prog 77 #[.int .i64 o, .int .i64 x, .int .i64 y] w (SameI w (ev2 o x y)) := by
  have HC := Lib.hid (compare_any o x y w hc1 hc2)
  have HE := Lib.hid (show ev2 o x y = tru (cmp o x y) by unfold ev2; rw [if_neg (by omega), if_neg (by omega), if_neg (by omega), if_neg (by omega), if_neg (by omega), if_neg (by omega), if_neg (by omega)])
  obtain ⟨b, hb⟩ : ∃ b, b = cmp o x y := ⟨_, rfl⟩
  rw [← hb] at HC HE
  have HT := Lib.hid (truth_any b w)
  have g4 : (o == 4) = false := by simp; omega
  have g5 : (o == 5) = false := by simp; omega
  have g6 : (o == 6) = false := by simp; omega
  have g7 : (o == 7) = false := by simp; omega
  have g8 : (o == 8) = false := by simp; omega
  have g19 : (o == 19) = false := by simp; omega
  have g20 : (o == 20) = false := by simp; omega
  clear hb hc1 hc2
  go_enter Tryd.func77, Tryd.ntmps77
  go_wp2_with (first
    | (go_at_call 91; (with_reducible refine HC.out.mono ?_); rintro e w' ⟨rfl, rfl⟩)
    | (go_at_call 86; (with_reducible refine HT.out.mono ?_); rintro e w' ⟨rfl, rfl⟩))
  go_ret
  exact same_int HE.out.symm

theorem ofTwo_plus (x y : Int) (w : World) (h1 : -1000000 ≤ x) (h2 : x ≤ 1000000) (h3 : -1000000 ≤ y) (h4 : y ≤ 1000000) : Calls Tryd.prog 77 #[.int .i64 4, .int .i64 x, .int .i64 y] w (SameI w (ev2 4 x y)) := by
  have HX := Lib.hid (plus_any x y w)
  have HE := Lib.hid (show plus x y = ev2 4 x y by unfold plus; rw [near_of h1 h2, near_of h3 h4]; simp [ev2])
  clear h1 h2 h3 h4
  go_enter Tryd.func77, Tryd.ntmps77
  go_wp2_with (go_at_call 89; (with_reducible refine HX.out.mono ?_); rintro e w' ⟨rfl, rfl⟩)
  go_ret
  exact same_int HE.out

theorem ofTwo_minus (x y : Int) (w : World) (h1 : -1000000 ≤ x) (h2 : x ≤ 1000000) (h3 : -1000000 ≤ y) (h4 : y ≤ 1000000) : Calls Tryd.prog 77 #[.int .i64 5, .int .i64 x, .int .i64 y] w (SameI w (ev2 5 x y)) := by
  have HX := Lib.hid (minus_any x y w)
  have HE := Lib.hid (show minus x y = ev2 5 x y by unfold minus; rw [near_of h1 h2, near_of h3 h4]; simp [ev2])
  clear h1 h2 h3 h4
  go_enter Tryd.func77, Tryd.ntmps77
  go_wp2_with (go_at_call 88; (with_reducible refine HX.out.mono ?_); rintro e w' ⟨rfl, rfl⟩)
  go_ret
  exact same_int HE.out

theorem ofTwo_times (x y : Int) (w : World) (h1 : -1000000 ≤ x) (h2 : x ≤ 1000000) (h3 : -1000000 ≤ y) (h4 : y ≤ 1000000) : Calls Tryd.prog 77 #[.int .i64 6, .int .i64 x, .int .i64 y] w (SameI w (ev2 6 x y)) := by
  have HX := Lib.hid (times_any x y w)
  have HE := Lib.hid (show times x y = ev2 6 x y by unfold times; rw [near_of h1 h2, near_of h3 h4]; simp [ev2])
  clear h1 h2 h3 h4
  go_enter Tryd.func77, Tryd.ntmps77
  go_wp2_with (go_at_call 90; (with_reducible refine HX.out.mono ?_); rintro e w' ⟨rfl, rfl⟩)
  go_ret
  exact same_int HE.out

theorem ofTwo_min (x y : Int) (w : World) : Calls Tryd.prog 77 #[.int .i64 7, .int .i64 x, .int .i64 y] w (SameI w (ev2 7 x y)) := by
  have HE := Lib.hid (show ev2 7 x y = if x < y then x else y by simp [ev2])
  by_cases h : x < y
  · have h' : ¬ y < x := by omega
    go_enter Tryd.func77, Tryd.ntmps77
    go_wp2_with fail
    go_ret
    exact same_int (by rw [HE.out]; first | omega | (split <;> omega) | (rw [if_pos h]) | (rw [if_neg h]))
  · go_enter Tryd.func77, Tryd.ntmps77
    go_wp2_with fail
    go_ret
    exact same_int (by rw [HE.out]; first | omega | (split <;> omega) | (rw [if_pos h]) | (rw [if_neg h]))

theorem ofTwo_max (x y : Int) (w : World) : Calls Tryd.prog 77 #[.int .i64 8, .int .i64 x, .int .i64 y] w (SameI w (ev2 8 x y)) := by
  have HE := Lib.hid (show ev2 8 x y = if y < x then x else y by simp [ev2])
  by_cases h : y < x
  · have h' : ¬ x < y := by omega
    go_enter Tryd.func77, Tryd.ntmps77
    go_wp2_with fail
    go_ret
    exact same_int (by rw [HE.out]; first | omega | (split <;> omega) | (rw [if_pos h]) | (rw [if_neg h]))
  · go_enter Tryd.func77, Tryd.ntmps77
    go_wp2_with fail
    go_ret
    exact same_int (by rw [HE.out]; first | omega | (split <;> omega) | (rw [if_pos h]) | (rw [if_neg h]))

theorem ofTwo_and (x y : Int) (w : World) : Calls Tryd.prog 77 #[.int .i64 19, .int .i64 x, .int .i64 y] w (SameI w (ev2 19 x y)) := by
  have HE := Lib.hid (show ev2 19 x y = tru (x == 1 && y == 1) by simp [ev2])
  have HT := Lib.hid (fun b => truth_any b w)
  rcases hx : (x == 1) with _ | _
  all_goals
    rcases hy : (y == 1) with _ | _
    all_goals
      rw [hx, hy] at HE
      go_enter Tryd.func77, Tryd.ntmps77
      go_wp2_with (go_at_call 86; (with_reducible refine (HT.out _).mono ?_); rintro e w' ⟨rfl, rfl⟩)
      go_ret
      exact same_int HE.out.symm

theorem ofTwo_or (x y : Int) (w : World) : Calls Tryd.prog 77 #[.int .i64 20, .int .i64 x, .int .i64 y] w (SameI w (ev2 20 x y)) := by
  have HE := Lib.hid (show ev2 20 x y = tru (x == 1 || y == 1) by simp [ev2])
  have HT := Lib.hid (fun b => truth_any b w)
  rcases hx : (x == 1) with _ | _
  all_goals
    rcases hy : (y == 1) with _ | _
    all_goals
      rw [hx, hy] at HE
      go_enter Tryd.func77, Tryd.ntmps77
      go_wp2_with (go_at_call 86; (with_reducible refine (HT.out _).mono ?_); rintro e w' ⟨rfl, rfl⟩)
      go_ret
      exact same_int HE.out.symm

theorem ofTwo_any (o x y : Int) (w : World) (h0 : 4 ≤ o) (h20 : o ≤ 20) (h9 : o ≤ 8 ∨ 13 ≤ o) (h1 : -1000000 ≤ x) (h2 : x ≤ 1000000) (h3 : -1000000 ≤ y) (h4 : y ≤ 1000000) :
    Calls Tryd.prog 77 #[.int .i64 o, .int .i64 x, .int .i64 y] w (SameI w (ev2 o x y)) := by
  by_cases hc : 13 ≤ o ∧ o ≤ 18
  · exact ofTwo_cmp o x y w hc.1 hc.2
  · rcases (show o = 4 ∨ o = 5 ∨ o = 6 ∨ o = 7 ∨ o = 8 ∨ o = 19 ∨ o = 20 by omega) with rfl | rfl | rfl | rfl | rfl | rfl | rfl
    · exact ofTwo_plus x y w h1 h2 h3 h4
    · exact ofTwo_minus x y w h1 h2 h3 h4
    · exact ofTwo_times x y w h1 h2 h3 h4
    · exact ofTwo_min x y w
    · exact ofTwo_max x y w
    · exact ofTwo_and x y w
    · exact ofTwo_or x y w
end Go.Proofs.YtcfcpbkeedfbpaaDoor
