/- What come, whole, Depth and Type of the layer of terms answer. Condition: fewer terms than 2^46. -/
import Derived.Test.YtbkgkdfameojfaaTermLits
namespace Go.Proofs.Ytbkgkdfameojfaa
open Go.RowKit TermSpec
set_option maxRecDepth 100000

theorem below_place {l : List Tm} {a q m k : Nat} (h : cnt q (l.drop (a + 1)) = some m) (hk : k < q) :
    ∃ x, (belows l a q)[k]? = some ((a + 1 + x : Nat) : Int) ∧ 0 ≤ endA l ((a + 1 + x : Nat) : Int) ∧ a + 1 + x ≤ max l.length (a + 1) ∧ (∀ f, (stack f (l.drop (a + 1))).take (k + 1) = (stack f (l.drop (a + 1))).take k ++ [come f (l.drop (a + 1 + x))]) := by
  have h' := h
  rw [show q = (k + 1) + (q - (k + 1)) by omega] at h'
  obtain ⟨z, _, hz, _, _⟩ := cnt_split h'
  obtain ⟨x, y, hx, hy, _⟩ := cnt_split hz
  have hle := (cnt_le hx).1
  rw [List.length_drop] at hle
  refine ⟨x, ?_, ?_, by omega, fun f => ?_⟩
  · rw [belows_get hk, hx]; rfl
  · have := (below_next h hk).1
    rw [hx] at this
    simp only [Option.getD_some] at this
    rw [this]; omega
  · have := stack_take_next (f := f) hz hx
    rwa [List.drop_drop] at this
theorem come_at {f : Int → List Int → Int} {l : List Tm} {a : Nat} {t : Tm} (ht : l[a]? = some t) : come f (l.drop a) = f t.op ((stack f (l.drop (a + 1))).take (arN t.op)) := by rw [drop_get ht, come_cons]
def ComeRel (f : Int → List Int → Int) (W : World) (l : List Tm) (a q : Nat) (p i : Value) (wr : World) : Prop :=
  ∃ k : Nat, k ≤ q ∧ i = .int .i64 k ∧ RowI W wr p ((stack f (l.drop (a + 1))).take k)

def IHDep (A : Option Addr) (n c : Nat) (l : List Tm) (K : Nat) : Prop := ∀ (a : Nat) (w : World), n ≤ a + K → Tms w (.slice A n c) l → 0 ≤ endA l a → Calls Try.prog 55 #[.slice A n c, .int .i64 a, .func (.func 52) #[] #[]] w (RetI w (come depF (l.drop a)))
set_option maxHeartbeats 2000000 in
theorem comeDep_step (A : Option Addr) (n c : Nat) (l : List Tm) (K : Nat) (hn : n = l.length) (hn62 : n ≤ 70368744177664) (ih : IHDep A n c l K) (a : Nat) (w : World) (hK : n ≤ a + (K + 1)) (h : Tms w (.slice A n c) l) (he : 0 ≤ endA l a) :
    Calls Try.prog 55 #[.slice A n c, .int .i64 a, .func (.func 52) #[] #[]] w (RetI w (come depF (l.drop a))) := by
  obtain ⟨k0, m0, hk0, hc0, _, _, _⟩ := endA_nn he
  obtain rfl : k0 = a := by omega
  obtain ⟨t, m, ht, h0, _, hm⟩ := first_of hc0
  have han := get_lt ht
  have HT := Lib.hid h
  have HM := Lib.hid hm
  have HIH := Lib.hid ih
  have HBL := Lib.hid (below_yes A n c l k0 w h hn hn62 t ht he)
  obtain ⟨b, off, rfl, hb, c0, -, -⟩ := h.at_ ht
  have HCELL := Lib.hid c0
  have HCM := Lib.hid (come_at (f := depF) ht)
  have hq := (ar_bd t.op).2
  have e0 := arN_of h0
  have hsl := stack_len (f := depF) hm
  have hdb : ∀ b ∈ (stack depF (l.drop (k0 + 1))).take (arN t.op), b ≤ 4611686018427387903 := fun b hb => by
    have h1 := (stack_depth _ b (List.mem_of_mem_take hb)).2
    rw [List.length_drop] at h1
    omega
  have hdl : ((stack depF (l.drop (k0 + 1))).take (arN t.op)).length ≤ 4611686018427387903 := by rw [List.length_take]; omega
  have HDB := Lib.hid (And.intro hdl hdb)
  clear hdb hdl
  obtain ⟨o, ho⟩ : ∃ o, o = t.op := ⟨_, rfl⟩
  rw [← ho] at HBL HCELL HCM hq e0 HM hsl c0 HDB
  obtain ⟨q, hqe⟩ : ∃ q, q = arN o := ⟨_, rfl⟩
  rw [← hqe] at HBL HCM e0 HM hsl HDB
  have hq2 : q ≤ 2 := by omega
  have hal : k0 < n := by omega
  have hal' : (k0 : Int) < n := by omega
  have hlen : l.length = n := hn.symm
  obtain ⟨i0, hi, hz0, hz1, hz2⟩ := info_parts inf_int
  have HI := Lib.hid (And.intro hi (And.intro hz0 (And.intro hz1 hz2)))
  have HLEN := Lib.hid hlen
  have HSL := Lib.hid hsl
  clear ht ho hqe hn h hc0 hk0 hm he h0 e0 han hi hz0 hz1 hz2 hq c0 ih hlen hsl
  go_enter Try.func55, Try.ntmps55
  go_wp2_with (go_at_call 62; (with_reducible refine HBL.out.mono ?_))
  rintro e w1 ⟨v2, rfl, hr2, hb1⟩
  obtain ⟨A2, n2, c2, rfl, hn2, hc2, hA2⟩ := hr2.ints
  rw [belows_length] at hn2
  obtain rfl : q = n2 := hn2
  have HA2 := Lib.hid hA2
  have HB1 := Lib.hid hb1
  clear hr2 hc2 hA2 hb1
  go_wp2_with fail
  go_loopw [7, 9, 14] (fun p _ i wr => ComeRel depF w1 l k0 q p i wr) (fun _ _ i _ => 3 - (intOf i).toNat)
  case atStart => exact ⟨0, Nat.zero_le _, rfl, RowI.nil _ _ (Below.refl _ _)⟩
  case round =>
    obtain ⟨k, hk, rfl, hrow⟩ := hrel
    have hbw := below_two' HB1.out hrow.2
    have HR := Lib.hid hrow
    have HBW := Lib.hid hbw
    clear hrow hbw
    by_cases hlt : k < q
    · obtain ⟨b2, off2, rfl, hb2, hcell⟩ := HA2.out (by omega)
      obtain ⟨x, hx, hex, hbx, hst⟩ := below_place HM.out hlt
      have hck := (HR.out.2.cell (p := ⟨b2, off2 + k, none⟩) (by exact hb2)).trans (hcell k _ hx)
      have HST := Lib.hid (hst depF)
      rw [HLEN.out] at hbx
      have HCI := Lib.hid (HIH.out (k0 + 1 + x) wr (by omega) (HT.out.keep HBW.out) hex)
      obtain ⟨y, hy⟩ : ∃ y, y = come depF (l.drop (k0 + 1 + x)) := ⟨_, rfl⟩
      rw [← hy] at HST HCI
      obtain ⟨p, hp⟩ : ∃ p, p = k0 + 1 + x := ⟨_, rfl⟩
      rw [← hp] at HCI hck
      have hl : ((stack depF (l.drop (k0 + 1))).take k).length = k := by rw [List.length_take]; have := HSL.out; omega
      have HL1 : Hid (((stack depF (l.drop (k0 + 1))).take k).length + (intV [(y : Int)]).length ≤ maxLen) := Lib.hid (by rw [hl]; simp [maxLen]; omega)
      have HL2 : Hid ((((stack depF (l.drop (k0 + 1))).take k).length + (intV [(y : Int)]).length) * 8 ≤ 140737488355328) := Lib.hid (by rw [hl]; simp; omega)
      clear hx hex hbx hst hcell hl hy hp
      go_wp2_with (go_at_call 55; (with_reducible refine HCI.out.mono ?_))
      rintro e w3 ⟨rfl, hb3⟩
      have HR3 := Lib.hid (HR.out.keep hb3)
      have HRA := Lib.hid HR3.out.1
      have HSZ : Hid (w1.heap.size ≤ w3.heap.size) := Lib.hid HR3.out.2.size
      clear hb3 hck
      go_wp2_with (at_builtin; refine wpList_append_rd _ rfl (.tmp 18) (.tmp 23) _ rfl w1.heap.size 3 i0 (.int .i64 0) 8 Try.underlying37 HI.out.1 HI.out.2.1 HI.out.2.2.1 HI.out.2.2.2 rfl _ _ _ rfl (HRA.out.alloc _) _ (intV [(y : Int)]) rfl (Rd.lit (cs := #[.int .i64 y]) rfl) (intV_one _) HL1.out HL2.out ?_ ?_; (have := HSZ.out; simp; omega); intro p2 w4 hrow2 hg2 _; have HR4 := Lib.hid (RowI.add HR3.out hrow2 hg2); clear hrow2 hg2)
      go_roundw
      case rel => exact ⟨k + 1, hlt, by simp, by rw [HST.out]; exact HR4.out⟩
      case measure => simp [intOf]; omega
    · obtain rfl : k = q := by omega
      obtain ⟨A3, n3, c3, rfl, hn3⟩ : ∃ A n c, u7 = .slice A n c ∧ True := by
        obtain ⟨A, c, h⟩ := own_shape HR.out.1
        exact ⟨A, _, c, h, trivial⟩
      have c0 : wr.cell? ⟨b, off + k0 * 3, none⟩ = some (.int .i64 o) := (HBW.out.cell (by exact hb)).trans HCELL.out
      have HLT := Lib.hid (deplit_any o (.slice A3 n3 c3) _ wr HR.out.read HDB.out.1 HDB.out.2)
      go_wp2_with (go_at_call 52; (with_reducible refine HLT.out.mono ?_); rintro e w' ⟨rfl, rfl⟩)
      go_ret
      exact ⟨ret_int HCM.out.symm, HBW.out⟩
theorem comeDep_all (A : Option Addr) (n c : Nat) (l : List Tm) (hn : n = l.length) (hn62 : n ≤ 70368744177664) (K : Nat) : IHDep A n c l K := by
  induction K with
  | zero =>
    intro a w hK _ he
    obtain ⟨k, m, hk, _, h1, h2, h3⟩ := endA_nn he
    omega
  | succ K ih => exact fun a w hK h he => comeDep_step A n c l K hn hn62 ih a w hK h he
theorem comeDep_any (A : Option Addr) (n c : Nat) (l : List Tm) (hn : n = l.length) (hn62 : n ≤ 70368744177664) (a : Nat) (w : World) (h : Tms w (.slice A n c) l) (he : 0 ≤ endA l a) :
    Calls Try.prog 55 #[.slice A n c, .int .i64 a, .func (.func 52) #[] #[]] w (RetI w (come depF (l.drop a))) := comeDep_all A n c l hn hn62 n a w (by omega) h he

def IHTyp (A : Option Addr) (n c : Nat) (l : List Tm) (K : Nat) : Prop := ∀ (a : Nat) (w : World), n ≤ a + K → Tms w (.slice A n c) l → 0 ≤ endA l a → Calls Try.prog 55 #[.slice A n c, .int .i64 a, .func (.func 38) #[] #[]] w (RetI w (come typF (l.drop a)))
set_option maxHeartbeats 2000000 in
theorem comeTyp_step (A : Option Addr) (n c : Nat) (l : List Tm) (K : Nat) (hn : n = l.length) (hn62 : n ≤ 70368744177664) (ih : IHTyp A n c l K) (a : Nat) (w : World) (hK : n ≤ a + (K + 1)) (h : Tms w (.slice A n c) l) (he : 0 ≤ endA l a) :
    Calls Try.prog 55 #[.slice A n c, .int .i64 a, .func (.func 38) #[] #[]] w (RetI w (come typF (l.drop a))) := by
  obtain ⟨k0, m0, hk0, hc0, _, _, _⟩ := endA_nn he
  obtain rfl : k0 = a := by omega
  obtain ⟨t, m, ht, h0, _, hm⟩ := first_of hc0
  have han := get_lt ht
  have HT := Lib.hid h
  have HM := Lib.hid hm
  have HIH := Lib.hid ih
  have HBL := Lib.hid (below_yes A n c l k0 w h hn hn62 t ht he)
  obtain ⟨b, off, rfl, hb, c0, -, -⟩ := h.at_ ht
  have HCELL := Lib.hid c0
  have HCM := Lib.hid (come_at (f := typF) ht)
  have hq := (ar_bd t.op).2
  have e0 := arN_of h0
  have hsl := stack_len (f := typF) hm
  have hdl : ((stack typF (l.drop (k0 + 1))).take (arN t.op)).length ≤ 4611686018427387903 := by rw [List.length_take]; omega
  have HDB := Lib.hid hdl
  clear hdl
  obtain ⟨o, ho⟩ : ∃ o, o = t.op := ⟨_, rfl⟩
  rw [← ho] at HBL HCELL HCM hq e0 HM hsl c0 HDB
  obtain ⟨q, hqe⟩ : ∃ q, q = arN o := ⟨_, rfl⟩
  rw [← hqe] at HBL HCM e0 HM hsl HDB
  have hq2 : q ≤ 2 := by omega
  have hal : k0 < n := by omega
  have hal' : (k0 : Int) < n := by omega
  have hlen : l.length = n := hn.symm
  obtain ⟨i0, hi, hz0, hz1, hz2⟩ := info_parts inf_int
  have HI := Lib.hid (And.intro hi (And.intro hz0 (And.intro hz1 hz2)))
  have HLEN := Lib.hid hlen
  have HSL := Lib.hid hsl
  clear ht ho hqe hn h hc0 hk0 hm he h0 e0 han hi hz0 hz1 hz2 hq c0 ih hlen hsl
  go_enter Try.func55, Try.ntmps55
  go_wp2_with (go_at_call 62; (with_reducible refine HBL.out.mono ?_))
  rintro e w1 ⟨v2, rfl, hr2, hb1⟩
  obtain ⟨A2, n2, c2, rfl, hn2, hc2, hA2⟩ := hr2.ints
  rw [belows_length] at hn2
  obtain rfl : q = n2 := hn2
  have HA2 := Lib.hid hA2
  have HB1 := Lib.hid hb1
  clear hr2 hc2 hA2 hb1
  go_wp2_with fail
  go_loopw [7, 9, 14] (fun p _ i wr => ComeRel typF w1 l k0 q p i wr) (fun _ _ i _ => 3 - (intOf i).toNat)
  case atStart => exact ⟨0, Nat.zero_le _, rfl, RowI.nil _ _ (Below.refl _ _)⟩
  case round =>
    obtain ⟨k, hk, rfl, hrow⟩ := hrel
    have hbw := below_two' HB1.out hrow.2
    have HR := Lib.hid hrow
    have HBW := Lib.hid hbw
    clear hrow hbw
    by_cases hlt : k < q
    · obtain ⟨b2, off2, rfl, hb2, hcell⟩ := HA2.out (by omega)
      obtain ⟨x, hx, hex, hbx, hst⟩ := below_place HM.out hlt
      have hck := (HR.out.2.cell (p := ⟨b2, off2 + k, none⟩) (by exact hb2)).trans (hcell k _ hx)
      have HST := Lib.hid (hst typF)
      rw [HLEN.out] at hbx
      have HCI := Lib.hid (HIH.out (k0 + 1 + x) wr (by omega) (HT.out.keep HBW.out) hex)
      obtain ⟨y, hy⟩ : ∃ y, y = come typF (l.drop (k0 + 1 + x)) := ⟨_, rfl⟩
      rw [← hy] at HST HCI
      obtain ⟨p, hp⟩ : ∃ p, p = k0 + 1 + x := ⟨_, rfl⟩
      rw [← hp] at HCI hck
      have hl : ((stack typF (l.drop (k0 + 1))).take k).length = k := by rw [List.length_take]; have := HSL.out; omega
      have HL1 : Hid (((stack typF (l.drop (k0 + 1))).take k).length + (intV [(y : Int)]).length ≤ maxLen) := Lib.hid (by rw [hl]; simp [maxLen]; omega)
      have HL2 : Hid ((((stack typF (l.drop (k0 + 1))).take k).length + (intV [(y : Int)]).length) * 8 ≤ 140737488355328) := Lib.hid (by rw [hl]; simp; omega)
      clear hx hex hbx hst hcell hl hy hp
      go_wp2_with (go_at_call 55; (with_reducible refine HCI.out.mono ?_))
      rintro e w3 ⟨rfl, hb3⟩
      have HR3 := Lib.hid (HR.out.keep hb3)
      have HRA := Lib.hid HR3.out.1
      have HSZ : Hid (w1.heap.size ≤ w3.heap.size) := Lib.hid HR3.out.2.size
      clear hb3 hck
      go_wp2_with (at_builtin; refine wpList_append_rd _ rfl (.tmp 18) (.tmp 23) _ rfl w1.heap.size 3 i0 (.int .i64 0) 8 Try.underlying37 HI.out.1 HI.out.2.1 HI.out.2.2.1 HI.out.2.2.2 rfl _ _ _ rfl (HRA.out.alloc _) _ (intV [(y : Int)]) rfl (Rd.lit (cs := #[.int .i64 y]) rfl) (intV_one _) HL1.out HL2.out ?_ ?_; (have := HSZ.out; simp; omega); intro p2 w4 hrow2 hg2 _; have HR4 := Lib.hid (RowI.add HR3.out hrow2 hg2); clear hrow2 hg2)
      go_roundw
      case rel => exact ⟨k + 1, hlt, by simp, by rw [HST.out]; exact HR4.out⟩
      case measure => simp [intOf]; omega
    · obtain rfl : k = q := by omega
      obtain ⟨A3, n3, c3, rfl, hn3⟩ : ∃ A n c, u7 = .slice A n c ∧ True := by
        obtain ⟨A, c, h⟩ := own_shape HR.out.1
        exact ⟨A, _, c, h, trivial⟩
      have c0 : wr.cell? ⟨b, off + k0 * 3, none⟩ = some (.int .i64 o) := (HBW.out.cell (by exact hb)).trans HCELL.out
      have HLT := Lib.hid (typlit_any o (.slice A3 n3 c3) _ wr HR.out.read HDB.out)
      go_wp2_with (go_at_call 38; (with_reducible refine HLT.out.mono ?_); rintro e w' ⟨rfl, rfl⟩)
      go_ret
      exact ⟨ret_int HCM.out.symm, HBW.out⟩
theorem comeTyp_all (A : Option Addr) (n c : Nat) (l : List Tm) (hn : n = l.length) (hn62 : n ≤ 70368744177664) (K : Nat) : IHTyp A n c l K := by
  induction K with
  | zero =>
    intro a w hK _ he
    obtain ⟨k, m, hk, _, h1, h2, h3⟩ := endA_nn he
    omega
  | succ K ih => exact fun a w hK h he => comeTyp_step A n c l K hn hn62 ih a w hK h he
theorem comeTyp_any (A : Option Addr) (n c : Nat) (l : List Tm) (hn : n = l.length) (hn62 : n ≤ 70368744177664) (a : Nat) (w : World) (h : Tms w (.slice A n c) l) (he : 0 ≤ endA l a) :
    Calls Try.prog 55 #[.slice A n c, .int .i64 a, .func (.func 38) #[] #[]] w (RetI w (come typF (l.drop a))) := comeTyp_all A n c l hn hn62 n a w (by omega) h he
end Go.Proofs.Ytbkgkdfameojfaa
