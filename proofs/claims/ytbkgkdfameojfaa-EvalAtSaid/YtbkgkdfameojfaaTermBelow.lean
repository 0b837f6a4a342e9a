/- What Below of the layer of terms answers, the reference's too. Condition: fewer terms than 2^46. -/
import Derived.Test.YtbkgkdfameojfaaTermRefEnd
namespace Go.Proofs.Ytbkgkdfameojfaa
open Go.RowKit TermSpec
set_option maxRecDepth 100000

theorem inf_int : (Try.prog.info? 3).map (fun i => (i.zero, i.size, i.bytes)) = some (some (.int .i64 0), 1, 8) := by kernel_rfl
/-- A list of numbers of the call's own. -/
def RowI (W wr : World) (p : Value) (xs : List Int) : Prop := wr.ownsRow W.heap.size 3 1 p xs.length (intV xs) ∧ Below W.heap.size W wr
theorem RowI.nil (W wr : World) (hb : Below W.heap.size W wr) : RowI W wr (.slice none 0 0) [] := ⟨World.ownsRow_nil _ _ _ _, hb⟩
theorem RowI.keep {W w w' : World} {p : Value} {xs : List Int} (h : RowI W w p xs) (hb : Below w.heap.size w w') : RowI W w' p xs := ⟨own_keep h.1 hb, below_two' h.2 hb⟩
theorem RowI.add {W wr w2 : World} {p p' : Value} {xs : List Int} {x : Int} {o : Obj} (h : RowI W wr p xs) (hrow : w2.ownsRow W.heap.size 3 1 p' (xs.length + (intV [x]).length) (intV xs ++ intV [x])) (hg : (wr.alloc o).grownBy w2 p.ownBlock) : RowI W w2 p' (xs ++ [x]) := by
  refine ⟨?_, (h.2.alloc h.2.size o).grown hg (by have := h.2.size; simp; omega) (fun j hj => (own_block_bd h.1 j hj).1)⟩
  rw [← intV_append, List.length_append]
  exact hrow
theorem RowI.read {W wr : World} {p : Value} {xs : List Int} (h : RowI W wr p xs) : Rd wr p (intV xs) := Rd.own h.1

/-- Where those below begin, if there is a whole expression. -/
def belowsE (l : List Tm) (a : Int) : List Int := if endA l a < 0 then [] else belows l a.toNat (arN ((l[a.toNat]?).elim 0 (·.op)))
theorem belowsE_no {l : List Tm} {a : Int} (h : endA l a < 0) : belowsE l a = [] := if_pos h
theorem belowsE_yes {l : List Tm} {a : Nat} {t : Tm} (h : 0 ≤ endA l a) (ht : l[a]? = some t) : belowsE l a = belows l a (arN t.op) := by
  unfold belowsE
  rw [if_neg (by omega), show ((a : Nat) : Int).toNat = a from rfl, ht]
  rfl
theorem below_next {l : List Tm} {a k q m : Nat} (h : cnt q (l.drop (a + 1)) = some m) (hk : k < q) :
    endA l ((a + 1 + (cnt k (l.drop (a + 1))).getD 0 : Nat) : Int) = (a + 1 + (cnt (k + 1) (l.drop (a + 1))).getD 0 : Nat) ∧ a + 1 + (cnt (k + 1) (l.drop (a + 1))).getD 0 ≤ max l.length (a + 1) := by
  rw [show q = (k + 1) + (q - (k + 1)) by omega] at h
  obtain ⟨x, _, hx, _, _⟩ := cnt_split h
  obtain ⟨y, z, hy, hz, rfl⟩ := cnt_split hx
  rw [hy, hx]
  rw [List.drop_drop] at hz
  have := (cnt_le hx).1
  rw [List.length_drop] at this
  refine ⟨?_, by simp only [Option.getD_some]; omega⟩
  rw [show (some y).getD 0 = y from rfl, endA_some hz]
  simp only [Option.getD_some]
  omega

def BelRel (W : World) (l : List Tm) (a q : Nat) (p v i : Value) (wr : World) : Prop :=
  ∃ k : Nat, k ≤ q ∧ i = .int .i64 k ∧ v = .int .i64 (a + 1 + (cnt k (l.drop (a + 1))).getD 0 : Nat) ∧ RowI W wr p (belows l a k)

set_option maxHeartbeats 2000000 in
theorem below_yes (A : Option Addr) (n c : Nat) (l : List Tm) (a : Nat) (w : World) (h : Tms w (.slice A n c) l) (hn : n = l.length) (hn62 : n ≤ 70368744177664) (t : Tm) (ht : l[a]? = some t) (he : 0 ≤ endA l a) :
    Calls Try.prog 62 #[.slice A n c, .int .i64 a] w (RetInts w (belows l a (arN t.op))) := by
  obtain ⟨k0, m0, hk0, hc0, _, _, _⟩ := endA_nn he
  obtain rfl : k0 = a := by omega
  obtain ⟨t', m, ht', h0, _, hm⟩ := first_of hc0
  rw [ht] at ht'
  cases ht'
  have han := get_lt ht
  have e0 := arN_of h0
  have HT := Lib.hid h
  have HN := Lib.hid hn
  have HM := Lib.hid hm
  obtain ⟨b, off, rfl, hb, c0, -, -⟩ := h.at_ ht
  have HC := Lib.hid (arity_any t.op)
  have HEE := Lib.hid (fun (a : Int) w h => end_any (some ⟨b, off, none⟩) n c l a w h hn (by omega))
  have hE := HEE.out k0 w h
  obtain ⟨r, hr⟩ : ∃ r, r = endA l k0 := ⟨_, rfl⟩
  rw [← hr] at hE he
  have HE := Lib.hid hE
  obtain ⟨o, ho⟩ : ∃ o, o = t.op := ⟨_, rfl⟩
  rw [← ho] at HC c0 e0 h0 HM ⊢
  have hq := (ar_bd o).2
  obtain ⟨q, hqe⟩ : ∃ q, q = arN o := ⟨_, rfl⟩
  rw [← hqe] at e0 HM ⊢
  rw [← e0] at HC hq
  have hq2 : q ≤ 2 := by omega
  have hal : k0 < n := by omega
  have hal' : (k0 : Int) < n := by omega
  obtain ⟨i0, hi, hz0, hz1, hz2⟩ := info_parts inf_int
  have HI := Lib.hid (And.intro hi (And.intro hz0 (And.intro hz1 hz2)))
  clear ht ho hqe hn h hc0 hk0 hm hr hE h0 e0 han hi hz0 hz1 hz2 hq
  go_enter Try.func62, Try.ntmps62
  go_wp2_with (first
    | (go_at_call 54; (with_reducible refine HE.out.mono ?_); rintro e w' ⟨rfl, rfl⟩)
    | (go_at_call 17; (with_reducible refine (HC.out _).mono ?_); rintro e w' ⟨rfl, rfl⟩))
  go_loopw [5, 6, 19] (fun p v i wr => BelRel w l k0 q p v i wr) (fun _ _ i _ => 3 - (intOf i).toNat)
  case atStart => exact ⟨0, Nat.zero_le _, rfl, by rw [cnt_zero]; simp, RowI.nil _ _ (Below.refl _ _)⟩
  case round =>
    obtain ⟨k, hk, rfl, rfl, hrow⟩ := hrel
    have HR := Lib.hid hrow
    by_cases hlt : k < q
    · obtain ⟨hx, hx2⟩ := below_next HM.out hlt
      obtain ⟨y, hy⟩ : ∃ y, y = k0 + 1 + (cnt k (l.drop (k0 + 1))).getD 0 := ⟨_, rfl⟩
      obtain ⟨z, hz⟩ : ∃ z, z = k0 + 1 + (cnt (k + 1) (l.drop (k0 + 1))).getD 0 := ⟨_, rfl⟩
      have HX := Lib.hid hx
      have HY := Lib.hid hy
      have HZ := Lib.hid hz
      have hl := belows_length l k0 k
      have HL1 : Hid ((belows l k0 k).length + (intV [(y : Int)]).length ≤ maxLen) := Lib.hid (by rw [hl]; simp [maxLen]; omega)
      have HL2 : Hid (((belows l k0 k).length + (intV [(y : Int)]).length) * 8 ≤ 140737488355328) := Lib.hid (by rw [hl]; simp; omega)
      rw [← HY.out]
      have HSZ : Hid (w.heap.size ≤ wr.heap.size) := Lib.hid hrow.2.size
      have HRA := Lib.hid hrow.1
      clear hx hx2 hy hz hl hrow
      go_wp2_with (first
        | (at_builtin; refine wpList_append_rd _ rfl (.tmp 21) (.tmp 23) _ rfl w.heap.size 3 i0 (.int .i64 0) 8 Try.underlying37 HI.out.1 HI.out.2.1 HI.out.2.2.1 HI.out.2.2.2 rfl _ _ _ rfl (HRA.out.alloc _) _ (intV [(y : Int)]) rfl (Rd.lit (cs := #[.int .i64 y]) rfl) (intV_one _) HL1.out HL2.out ?_ ?_; (have := HSZ.out; simp; omega); intro p2 w2 hrow2 hg2 _; have HR2 := Lib.hid (RowI.add HR.out hrow2 hg2); have HT2 := Lib.hid (HT.out.keep HR2.out.2); clear hrow2 hg2)
        | (go_at_call 54; (with_reducible refine (HEE.out _ _ HT2.out).mono ?_); rintro e w' ⟨rfl, rfl⟩))
      go_roundw
      case rel => exact ⟨k + 1, hlt, by simp, by rw [HY.out, HX.out], by rw [belows_next, ← HY.out]; exact HR2.out⟩
      case measure => simp [intOf]; omega
    · obtain rfl : k = q := by omega
      go_wp2_with fail
      go_ret
      exact ⟨_, rfl, HR.out.read, HR.out.2⟩

theorem below_no (A : Option Addr) (n c : Nat) (l : List Tm) (a : Int) (w : World) (h : Tms w (.slice A n c) l) (hn : n = l.length) (hn62 : n ≤ 70368744177664) (he : endA l a < 0) :
    Calls Try.prog 62 #[.slice A n c, .int .i64 a] w (RetInts w []) := by
  have hE := end_any A n c l a w h hn (by omega)
  obtain ⟨r, hr⟩ : ∃ r, r = endA l a := ⟨_, rfl⟩
  rw [← hr] at hE he
  have HE := Lib.hid hE
  clear hr hE hn h
  go_enter Try.func62, Try.ntmps62
  go_wp2_with (go_at_call 54; (with_reducible refine HE.out.mono ?_); rintro e w' ⟨rfl, rfl⟩)
  go_ret
  exact ⟨_, rfl, Rd.nil _, Below.refl _ _⟩
theorem below_any (A : Option Addr) (n c : Nat) (l : List Tm) (a : Int) (w : World) (h : Tms w (.slice A n c) l) (hn : n = l.length) (hn62 : n ≤ 70368744177664) :
    Calls Try.prog 62 #[.slice A n c, .int .i64 a] w (RetInts w (belowsE l a)) := by
  by_cases he : endA l a < 0
  · rw [belowsE_no he]
    exact below_no A n c l a w h hn hn62 he
  · obtain ⟨k, m, rfl, hc, _, _, _⟩ := endA_nn (Int.not_lt.1 he)
    obtain ⟨t, _, ht, _⟩ := first_of hc
    rw [belowsE_yes (Int.not_lt.1 he) ht]
    exact below_yes A n c l k w h hn hn62 t ht (Int.not_lt.1 he)

set_option maxHeartbeats 2000000 in
theorem rbelow_any (A : Option Addr) (n c : Nat) (l : List Tm) (a : Nat) (w : World) (h : Tms w (.slice A n c) l) (hn : n = l.length) (hn62 : n ≤ 70368744177664) (t : Tm) (ht : l[a]? = some t) (he : 0 ≤ endA l a) :
    Calls Try.prog 25 #[.slice A n c, .int .i64 a] w (RetInts w (belows l a (arN t.op))) := by
  obtain ⟨k0, m0, hk0, hc0, _, _, _⟩ := endA_nn he
  obtain rfl : k0 = a := by omega
  obtain ⟨t', m, ht', h0, _, hm⟩ := first_of hc0
  rw [ht] at ht'
  cases ht'
  have han := get_lt ht
  have e0 := arN_of h0
  have HT := Lib.hid h
  have HN := Lib.hid hn
  have HM := Lib.hid hm
  obtain ⟨b, off, rfl, hb, c0, -, -⟩ := h.at_ ht
  have HC := Lib.hid (rarity_any t.op)
  have HEE := Lib.hid (fun (a : Int) w h => rend_any (some ⟨b, off, none⟩) n c l a w h hn (by omega))
  obtain ⟨o, ho⟩ : ∃ o, o = t.op := ⟨_, rfl⟩
  rw [← ho] at HC c0 e0 h0 HM ⊢
  have hq := (ar_bd o).2
  obtain ⟨q, hqe⟩ : ∃ q, q = arN o := ⟨_, rfl⟩
  rw [← hqe] at e0 HM ⊢
  rw [← e0] at HC hq
  have hq2 : q ≤ 2 := by omega
  have hal : k0 < n := by omega
  have hal' : (k0 : Int) < n := by omega
  have HCELL := Lib.hid c0
  obtain ⟨i0, hi, hz0, hz1, hz2⟩ := info_parts inf_int
  have HI := Lib.hid (And.intro hi (And.intro hz0 (And.intro hz1 hz2)))
  clear ht ho hqe hn h hc0 hk0 hm he h0 e0 han hi hz0 hz1 hz2 hq c0
  go_enter Try.func25, Try.ntmps25
  go_wp2_with fail
  go_loopw [5, 6, 7] (fun p v i wr => BelRel w l k0 q p v i wr) (fun _ _ i _ => 3 - (intOf i).toNat)
  case atStart => exact ⟨0, Nat.zero_le _, rfl, by rw [cnt_zero]; simp, World.ownsRow_lit w #[] 0 (Nat.le_refl _) (Nat.zero_le _) rfl, (Below.refl _ _).alloc (Nat.le_refl _) _⟩
  case round =>
    obtain ⟨k, hk, rfl, rfl, hrow⟩ := hrel
    have HR0 := Lib.hid hrow
    have c0 : wr.cell? ⟨b, off + k0 * 3, none⟩ = some (.int .i64 o) := (hrow.2.cell (by exact hb)).trans HCELL.out
    clear hrow
    by_cases hlt : k < q
    · obtain ⟨hx, hx2⟩ := below_next HM.out hlt
      obtain ⟨y, hy⟩ : ∃ y, y = k0 + 1 + (cnt k (l.drop (k0 + 1))).getD 0 := ⟨_, rfl⟩
      have HX := Lib.hid hx
      have HY := Lib.hid hy
      have hl := belows_length l k0 k
      have HL1 : Hid ((belows l k0 k).length + (intV [(y : Int)]).length ≤ maxLen) := Lib.hid (by rw [hl]; simp [maxLen]; omega)
      have HL2 : Hid (((belows l k0 k).length + (intV [(y : Int)]).length) * 8 ≤ 140737488355328) := Lib.hid (by rw [hl]; simp; omega)
      rw [← HY.out]
      clear hx hx2 hy hl
      go_wp2_with (go_at_call 42; (with_reducible refine (HC.out _).mono ?_))
      rintro e w1 ⟨rfl, hb1⟩
      have HR := Lib.hid (HR0.out.keep hb1)
      have HSZ : Hid (w.heap.size ≤ w1.heap.size) := Lib.hid HR.out.2.size
      have HRA := Lib.hid HR.out.1
      clear hb1 c0
      go_wp2_with (at_builtin; refine wpList_append_rd _ rfl (.tmp 21) (.tmp 23) _ rfl w.heap.size 3 i0 (.int .i64 0) 8 Try.underlying37 HI.out.1 HI.out.2.1 HI.out.2.2.1 HI.out.2.2.2 rfl _ _ _ rfl (HRA.out.alloc _) _ (intV [(y : Int)]) rfl (Rd.lit (cs := #[.int .i64 y]) rfl) (intV_one _) HL1.out HL2.out ?_ ?_; (have := HSZ.out; simp; omega); intro p2 w2 hrow2 hg2 _; have HR2 := Lib.hid (RowI.add HR.out hrow2 hg2); have HT2 := Lib.hid (HT.out.keep HR2.out.2); clear hrow2 hg2)
      go_wp2_with (go_at_call 43; (with_reducible refine (HEE.out _ _ HT2.out).mono ?_))
      rintro e w3 ⟨rfl, hb3⟩
      have HR3 := Lib.hid (HR2.out.keep hb3)
      clear hb3
      go_wp2_with fail
      go_roundw
      case rel => exact ⟨k + 1, hlt, by simp, by rw [HY.out, HX.out], by rw [belows_next, ← HY.out]; exact HR3.out⟩
      case measure => simp [intOf]; omega
    · obtain rfl : k = q := by omega
      go_wp2_with (go_at_call 42; (with_reducible refine (HC.out _).mono ?_))
      rintro e w1 ⟨rfl, hb1⟩
      have HR := Lib.hid (HR0.out.keep hb1)
      clear hb1 c0
      go_wp2_with fail
      go_ret
      exact ⟨_, rfl, HR.out.read, HR.out.2⟩
end Go.Proofs.Ytbkgkdfameojfaa
