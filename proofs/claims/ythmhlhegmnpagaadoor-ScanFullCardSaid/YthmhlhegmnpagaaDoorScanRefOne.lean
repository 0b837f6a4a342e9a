/- What the reference's One of the layer of tokens answers. Condition: a text no longer than memory holds. -/
import Derived.Test.YthmhlhegmnpagaaDoorScanRef
import Derived.BigQuiet
import Derived.Deep.QuietTactic
import Derived.IntWalk
namespace Go.Proofs.YthmhlhegmnpagaaDoor
open Go.RowKit ScanSpec Go.BigFrame

/-- What One answers of the token at a place. -/
def oneE (l : List UInt8) (i : Nat) : Int × Int × Int := if (one (l.drop i)).2.2 = 0 then ((one (l.drop i)).1, ((i + (one (l.drop i)).2.1 : Nat) : Int), 0) else (0, 0, (one (l.drop i)).2.2)

theorem oneE_err {l : List UInt8} {i : Nat} {x : Int} (h : one (l.drop i) = (0, 0, x)) (hx : x ≠ 0) : oneE l i = (0, 0, x) := by
  unfold oneE; rw [h, if_neg hx]
theorem oneE_ok {l : List UInt8} {i n : Nat} {x : Int} (h : one (l.drop i) = (x, n, 0)) : oneE l i = (x, ((i + n : Nat) : Int), 0) := by
  unfold oneE; rw [h, if_pos rfl]
theorem ret_one {l : List UInt8} {i : Nat} {a b c : Int} (h : oneE l i = (a, b, c)) : Ending.returned (.tuple #[.int .i64 a, .int .i64 b, .int .i64 c]) = .returned (.tuple #[.int .i64 (oneE l i).1, .int .i64 (oneE l i).2.1, .int .i64 (oneE l i).2.2]) := by rw [h]
theorem one_name {l : List UInt8} {i : Nat} (h : cls l i = 1) : one (l.drop i) = if 12 < run isWord (l.drop i) then (0, 0, 5) else (1, run isWord (l.drop i), 0) := by
  unfold one; rw [cls_drop, Nat.add_zero, if_pos h]
theorem one_num {l : List UInt8} {i : Nat} (h : cls l i = 2) : one (l.drop i) = if cls l (i + run isNum (l.drop i)) = 1 ∨ cls l (i + run isNum (l.drop i)) = 3 then (0, 0, 2) else if 9 < run isNum (l.drop i) then (0, 0, 5) else (2, run isNum (l.drop i), 0) := by
  unfold one; rw [cls_drop, Nat.add_zero, if_neg (by rw [h]; decide), if_pos h, cls_drop]
theorem one_mark {l : List UInt8} {i : Nat} (h1 : ¬ cls l i = 1) (h2 : ¬ cls l i = 2) : one (l.drop i) = if markLen (l.drop i) = 0 then (0, 0, 2) else (3, markLen (l.drop i), 0) := by
  unfold one; rw [cls_drop, Nat.add_zero, if_neg h1, if_neg h2]

theorem find_hit {α : Type} {p : α → Bool} : ∀ {l : List α} {j : Nat} {x : α}, l[j]? = some x → (∀ y ∈ l.take j, p y = false) → p x = true → l.find? p = some x
  | [], _, _, h, _, _ => by simp at h
  | a :: t, 0, x, h, _, hx => by
    simp at h; subst h; simp [hx]
  | a :: t, j + 1, x, h, hn, hx => by
    have ha : p a = false := hn a (by simp)
    rw [List.find?_cons, ha]
    exact find_hit (j := j) (by simpa using h) (fun y hy => hn y (by simp [hy])) hx
theorem mark_hit {d : List UInt8} {j : Nat} {m : List UInt8} (h : marks[j]? = some m) (hn : ∀ y ∈ marks.take j, y.isPrefixOf d = false) (hm : m.isPrefixOf d = true) : markLen d = m.length := by
  unfold markLen; rw [find_hit (p := fun m => m.isPrefixOf d) h hn hm]
theorem mark_none {d : List UInt8} (h : ∀ y ∈ marks, y.isPrefixOf d = false) : markLen d = 0 := by
  unfold markLen
  rw [List.find?_eq_none.2 (fun y hy => by rw [h y hy]; simp)]
theorem marks_len : ∀ y ∈ marks, 1 ≤ y.length ∧ y.length ≤ 2 := by decide
theorem marks_map : marksS.map (·.data.toList) = marks := by decide
theorem marks_get {j : Nat} {m : ByteArray} (h : marksS[j]? = some m) : marks[j]? = some m.data.toList := by
  rw [← marks_map, List.getElem?_map, h]; rfl
theorem marks_size {j : Nat} {m : ByteArray} (h : marksS[j]? = some m) : 1 ≤ m.size ∧ m.size ≤ 2 := marks_len _ (List.mem_of_getElem? (marks_get h))

theorem prefix_iff (s : ByteArray) (i : Nat) (m : ByteArray) : (m.data.toList.isPrefixOf (s.data.toList.drop i) = true) ↔ (i + m.size ≤ s.size ∨ m.size = 0) ∧ (s.extract i (i + m.size)) = m := by
  rw [List.isPrefixOf_iff_prefix]
  have e : (s.extract i (i + m.size)).data.toList = (s.data.toList.drop i).take m.size := by
    rw [ByteArray.data_extract, Array.toList_extract, List.extract_eq_take_drop]
    congr 1; omega
  constructor
  · intro h
    have hl := h.length_le
    rw [List.length_drop, size_list', size_list'] at hl
    refine ⟨by omega, ByteArray.ext (Array.toList_inj.mp ?_)⟩
    rw [e, ← size_list' m, ← List.prefix_iff_eq_take.1 h]
  · rintro ⟨_, h⟩
    rw [List.prefix_iff_eq_take, size_list' m, ← e, h]

theorem rmarks_any (w : World) : Calls Tryd.prog 17 #[] w fun e w' => ∃ v, e = .returned v ∧ Rd w' v (strV marksS) ∧ Below w.heap.size w w' := by
  go_enter Tryd.func17, Tryd.ntmps17
  go_wp2
  go_ret
  exact ⟨_, rfl, Rd.lit (cs := (strV marksS).toArray) rfl, (Below.refl _ _).alloc (Nat.le_refl _) _⟩

def RunRel (s : ByteArray) (p : UInt8 → Bool) (i E : Nat) (v : Value) : Prop := ∃ k : Nat, i ≤ k ∧ k ≤ s.size ∧ v = .int .i64 k ∧ k + run p (s.data.toList.drop k) = E
def OnePost (s : ByteArray) (i : Nat) (w : World) (e : Ending) (w' : World) : Prop :=
  e = .returned (.tuple #[.int .i64 (oneE s.data.toList i).1, .int .i64 (oneE s.data.toList i).2.1, .int .i64 (oneE s.data.toList i).2.2]) ∧ Below w.heap.size w w'

set_option maxHeartbeats 2000000 in
theorem rone_name (s : ByteArray) (i : Nat) (w : World) (hs : s.size ≤ 9223372036854775807) (hi : i ≤ s.size) (h1 : cls s.data.toList i = 1) : Calls Tryd.prog 11 #[.string s, .int .i64 i] w (OnePost s i w) := by
  have HO := Lib.hid (one_name h1)
  have HC := Lib.hid (fun w => class_is h1 hs (show i ≤ 9223372036854775807 by omega) w)
  obtain ⟨E, hE⟩ : ∃ E, E = i + run isWord (s.data.toList.drop i) := ⟨_, rfl⟩
  have HE := Lib.hid hE
  clear h1 hE
  go_enter Tryd.func11, Tryd.ntmps11
  go_wp2_with (go_at_call 16; (with_reducible refine (HC.out _).mono ?_); rintro e w' ⟨rfl, rfl⟩)
  go_loop [7] (fun v => RunRel s isWord i E v) (fun v => s.size - (intOf v).toNat)
  case atStart => exact ⟨i, Nat.le_refl _, hi, rfl, HE.out.symm⟩
  case round =>
    obtain ⟨k, hik, hk, rfl, hrun⟩ := hrel
    have HR := Lib.hid hrun
    clear hrun
    obtain ⟨g, hg⟩ : ∃ g, g = cls s.data.toList k := ⟨_, rfl⟩
    have HG := Lib.hid (fun w => class_is hg.symm hs (show k ≤ 9223372036854775807 by omega) w)
    have HGl := Lib.hid hg
    clear hg
    by_cases hgo : 1 ≤ g ∧ g ≤ 3
    · obtain ⟨g1, g3⟩ := hgo
      have HN : Hid (RunRel s isWord i E (.int .i64 ((k : Int) + 1)) ∧ k < s.size) := Lib.hid (by
        obtain ⟨c, hc, hw⟩ := isWord_cls (show 1 ≤ cls s.data.toList k by rw [← HGl.out]; exact g1) (by rw [← HGl.out]; exact g3)
        have hlt := get_lt hc
        rw [size_list'] at hlt
        exact ⟨⟨k + 1, by omega, by omega, by simp, (run_next hc hw).trans HR.out⟩, hlt⟩)
      have hkl := HN.out.2
      go_wp2_with (go_at_call 16; (with_reducible refine (HG.out _).mono ?_); rintro e w' ⟨rfl, rfl⟩)
      go_round
      case rel => exact HN.out.1
      case measure => have := HN.out.2; simp [intOf]; omega
    · have hkE : Hid (k = E) := Lib.hid (by
        have := run_stop (isWord_no (l := s.data.toList) (i := k) (by rw [← HGl.out]; exact hgo))
        have := HR.out
        omega)
      by_cases hb : 12 < (k : Int) - (i : Int)
      · have HV : Hid (oneE s.data.toList i = (0, 0, 5)) := Lib.hid (oneE_err (HO.out.trans (if_pos (by have := hkE.out; have := HE.out; omega))) (by decide))
        by_cases g1 : 1 ≤ g
        all_goals
          (first | (have g3 : 3 < g := by omega) | skip)
          clear hgo
          go_wp2_with (go_at_call 16; (with_reducible refine (HG.out _).mono ?_); rintro e w' ⟨rfl, rfl⟩)
          go_ret3
          exact ⟨ret_one HV.out, Below.refl _ _⟩
      · have HV : Hid (oneE s.data.toList i = (1, (k : Int), 0)) := Lib.hid (by
          have := hkE.out; have := HE.out
          rw [oneE_ok (HO.out.trans (if_neg (by omega))), show i + run isWord (s.data.toList.drop i) = k by omega])
        by_cases g1 : 1 ≤ g
        all_goals
          (first | (have g3 : 3 < g := by omega) | skip)
          clear hgo
          go_wp2_with (go_at_call 16; (with_reducible refine (HG.out _).mono ?_); rintro e w' ⟨rfl, rfl⟩)
          go_ret3
          exact ⟨ret_one HV.out, Below.refl _ _⟩

set_option maxHeartbeats 2000000 in
theorem rone_num (s : ByteArray) (i : Nat) (w : World) (hs : s.size ≤ 9223372036854775807) (hi : i ≤ s.size) (h1 : cls s.data.toList i = 2) : Calls Tryd.prog 11 #[.string s, .int .i64 i] w (OnePost s i w) := by
  have HO := Lib.hid (one_num h1)
  have HC := Lib.hid (fun w => class_is h1 hs (show i ≤ 9223372036854775807 by omega) w)
  obtain ⟨E, hE⟩ : ∃ E, E = i + run isNum (s.data.toList.drop i) := ⟨_, rfl⟩
  have HE := Lib.hid hE
  clear h1 hE
  go_enter Tryd.func11, Tryd.ntmps11
  go_wp2_with (go_at_call 16; (with_reducible refine (HC.out _).mono ?_); rintro e w' ⟨rfl, rfl⟩)
  go_loop [7] (fun v => RunRel s isNum i E v) (fun v => s.size - (intOf v).toNat)
  case atStart => exact ⟨i, Nat.le_refl _, hi, rfl, HE.out.symm⟩
  case round =>
    obtain ⟨k, hik, hk, rfl, hrun⟩ := hrel
    have HR := Lib.hid hrun
    clear hrun
    obtain ⟨g, hg⟩ : ∃ g, g = cls s.data.toList k := ⟨_, rfl⟩
    have HG := Lib.hid (fun w => class_is hg.symm hs (show k ≤ 9223372036854775807 by omega) w)
    have HGl := Lib.hid hg
    clear hg
    by_cases hgo : g = 2
    · have HN : Hid (RunRel s isNum i E (.int .i64 ((k : Int) + 1)) ∧ k < s.size) := Lib.hid (by
        obtain ⟨c, hc, hw⟩ := isNum_cls (show cls s.data.toList k = 2 by rw [← HGl.out]; exact hgo)
        have hlt := get_lt hc
        rw [size_list'] at hlt
        exact ⟨⟨k + 1, by omega, by omega, by simp, (run_next hc hw).trans HR.out⟩, hlt⟩)
      have hkl := HN.out.2
      subst hgo
      go_wp2_with (go_at_call 16; (with_reducible refine (HG.out _).mono ?_); rintro e w' ⟨rfl, rfl⟩)
      go_round
      case rel => exact HN.out.1
      case measure => simp [intOf]; omega
    · have hkE : Hid (k = E) := Lib.hid (by
        have := run_stop (isNum_no (l := s.data.toList) (i := k) (by rw [← HGl.out]; exact hgo))
        have := HR.out
        omega)
      have HK : Hid (i + run isNum (s.data.toList.drop i) = k) := Lib.hid (by have := hkE.out; have := HE.out; omega)
      have e2 : (g == 2) = false := by simpa using hgo
      clear hgo
      by_cases hw : g = 1 ∨ g = 3
      · have HV : Hid (oneE s.data.toList i = (0, 0, 2)) := Lib.hid (oneE_err (HO.out.trans (if_pos (by rw [HK.out, ← HGl.out]; exact hw))) (by decide))
        rcases hw with rfl | rfl
        all_goals
          go_wp2_with (go_at_call 16; (with_reducible refine (HG.out _).mono ?_); rintro e w' ⟨rfl, rfl⟩)
          go_ret3
          exact ⟨ret_one HV.out, Below.refl _ _⟩
      · have e1 : (g == 1) = false := by simp; omega
        have e3 : (g == 3) = false := by simp; omega
        by_cases hb : 9 < (k : Int) - (i : Int)
        · have HV : Hid (oneE s.data.toList i = (0, 0, 5)) := Lib.hid (oneE_err (HO.out.trans ((if_neg (by rw [HK.out, ← HGl.out]; exact hw)).trans (if_pos (by have := HK.out; omega)))) (by decide))
          clear hw
          go_wp2_with (go_at_call 16; (with_reducible refine (HG.out _).mono ?_); rintro e w' ⟨rfl, rfl⟩)
          go_ret3
          exact ⟨ret_one HV.out, Below.refl _ _⟩
        · have HV : Hid (oneE s.data.toList i = (2, (k : Int), 0)) := Lib.hid (by
            rw [oneE_ok (HO.out.trans ((if_neg (by rw [HK.out, ← HGl.out]; exact hw)).trans (if_neg (by have := HK.out; omega)))), HK.out])
          clear hw
          go_wp2_with (go_at_call 16; (with_reducible refine (HG.out _).mono ?_); rintro e w' ⟨rfl, rfl⟩)
          go_ret3
          exact ⟨ret_one HV.out, Below.refl _ _⟩

def MarkRel (W : World) (d : List UInt8) (v : Value) (w : World) : Prop := ∃ j : Nat, j ≤ 22 ∧ v = .int .i64 j ∧ (∀ y ∈ marks.take j, y.isPrefixOf d = false) ∧ Below W.heap.size W w
set_option maxHeartbeats 2000000 in
theorem rone_mark (s : ByteArray) (i : Nat) (w : World) (hs : s.size ≤ 9223372036854775800) (hi : i ≤ s.size) (h1 : ¬ cls s.data.toList i = 1) (h2 : ¬ cls s.data.toList i = 2) : Calls Tryd.prog 11 #[.string s, .int .i64 i] w (OnePost s i w) := by
  have HO := Lib.hid (one_mark h1 h2)
  obtain ⟨g, hg⟩ : ∃ g, g = cls s.data.toList i := ⟨_, rfl⟩
  have HC := Lib.hid (fun w => class_is hg.symm (show s.size ≤ 9223372036854775807 by omega) (show i ≤ 9223372036854775807 by omega) w)
  have e1 : (g == 1) = false := by rw [hg]; simpa using h1
  have e2 : (g == 2) = false := by rw [hg]; simpa using h2
  clear hg h1 h2
  go_enter Tryd.func11, Tryd.ntmps11
  go_wp2_with (first
    | (go_at_call 16; (with_reducible refine (HC.out _).mono ?_); rintro e w' ⟨rfl, rfl⟩)
    | (go_at_call 17; refine (rmarks_any _).mono ?_))
  rintro e w1 ⟨v, rfl, hrd, hb1⟩
  obtain ⟨A, n, c, rfl, hn, hc, hA⟩ := hrd.strs
  have hn22 : n = 22 := by rw [← hn]; decide
  subst hn22
  obtain ⟨b, off, rfl, hbl, hcell⟩ := hA (by omega)
  have HCell := Lib.hid hcell
  clear hrd hn hA hcell
  go_wp2_with fail
  go_loopw [9] (fun v wr => MarkRel w1 (s.data.toList.drop i) v wr) (fun v _ => 22 - (intOf v).toNat)
  case atStart => exact ⟨0, Nat.zero_le _, rfl, by simp, Below.refl _ _⟩
  case round =>
    obtain ⟨j, hj, rfl, hno, hbw⟩ := hrel
    by_cases hlt : j < 22
    · obtain ⟨m, hm⟩ : ∃ m, marksS[j]? = some m := get_some (by exact hlt)
      have hck : wr.cell? ⟨b, off + j, none⟩ = some (.string m) := (hbw.cell (by exact hbl)).trans (HCell.out j m hm)
      obtain ⟨m1, m2⟩ := marks_size hm
      have hltI : (j : Int) < 22 := by omega
      have hpf := prefix_iff s i m
      have HM := Lib.hid (marks_get hm)
      have HNo := Lib.hid hno
      have HB := Lib.hid hbw
      clear hm hno hbw
      have hs2 : s.size ≤ 9223372036854775807 := by omega
      by_cases hfit : i + m.size ≤ s.size
      · have hfI : (i : Int) + (m.size : Int) ≤ (s.size : Int) := by omega
        have hiz : (i : Int) ≤ (i : Int) + (m.size : Int) := by omega
        rcases hx : ((s.extract i (i + m.size)).toList == m.toList) with _ | _
        · have HN : Hid (MarkRel w1 (s.data.toList.drop i) (.int .i64 ((j : Int) + 1)) wr) := Lib.hid ⟨j + 1, hlt, by simp, fun y hy => by
            rw [take_next HM.out, List.mem_append, List.mem_singleton] at hy
            rcases hy with hy | hy
            · exact HNo.out y hy
            · rw [hy, ← Bool.not_eq_true]
              intro h
              exact bytes_ne hx (hpf.1 h).2, HB.out⟩
          have HN2 : Hid (∀ q, MarkRel w1 (s.data.toList.drop i) (.int .i64 ((j : Int) + 1)) (wr.drewN q)) := Lib.hid (fun q => by
            obtain ⟨a, b, c, d, e⟩ := HN.out
            exact ⟨a, b, c, d, below_drewN e q⟩)
          have hw1 : IntKind.i64.wrap ((i : Int) + (m.size : Int)) = (i : Int) + (m.size : Int) := IntWalk.i64_in _ (by omega)
          have hw2 : 0 ≤ (i : Int) + (m.size : Int) := by omega
          have hw3 : ((i : Int) + (m.size : Int)).toNat = i + m.size := by omega
          clear hpf
          go_wp2_with fail
          go_big_quiet (fail)
          clear hw1 hw2 hw3
          go_wp2_with fail
          go_roundw
          case rel => exact HN2.out _
          case measure => simp [intOf]; omega
        · have hpre : m.data.toList.isPrefixOf (s.data.toList.drop i) = true := hpf.2 ⟨.inl hfit, bytes_eq hx⟩
          have HV : Hid (oneE s.data.toList i = (3, (i : Int) + (m.size : Int), 0)) := Lib.hid (by
            have hml := mark_hit HM.out HNo.out hpre
            have hml' : markLen (s.data.toList.drop i) = m.size := hml
            rw [oneE_ok (HO.out.trans (if_neg (by rw [hml']; omega))), hml']; simp)
          have hw1 : IntKind.i64.wrap ((i : Int) + (m.size : Int)) = (i : Int) + (m.size : Int) := IntWalk.i64_in _ (by omega)
          have hw2 : 0 ≤ (i : Int) + (m.size : Int) := by omega
          have hw3 : ((i : Int) + (m.size : Int)).toNat = i + m.size := by omega
          clear hpf hpre
          go_wp2_with fail
          go_big_quiet (fail)
          clear hw1 hw2 hw3
          go_wp2_with fail
          go_ret3
          exact ⟨ret_one HV.out, below_two' hb1 (below_drewN HB.out _)⟩
      · have HN : Hid (MarkRel w1 (s.data.toList.drop i) (.int .i64 ((j : Int) + 1)) wr) := Lib.hid ⟨j + 1, hlt, by simp, fun y hy => by
          rw [take_next HM.out, List.mem_append, List.mem_singleton] at hy
          rcases hy with hy | hy
          · exact HNo.out y hy
          · rw [hy, ← Bool.not_eq_true]
            intro h
            rcases (hpf.1 h).1 with h' | h'
            · exact hfit h'
            · omega, HB.out⟩
        have HN2 : Hid (∀ q, MarkRel w1 (s.data.toList.drop i) (.int .i64 ((j : Int) + 1)) (wr.drewN q)) := Lib.hid (fun q => by
          obtain ⟨a, b, c, d, e⟩ := HN.out
          exact ⟨a, b, c, d, below_drewN e q⟩)
        have hd : decide ((i : Int) + (m.size : Int) ≤ (s.size : Int)) = false := decide_eq_false (by omega)
        have hw1 : IntKind.i64.wrap ((i : Int) + (m.size : Int)) = (i : Int) + (m.size : Int) := IntWalk.i64_in _ (by omega)
        clear hpf hfit
        go_wp2_with fail
        go_big_quiet (fail)
        clear hw1
        go_wp2_with fail
        go_roundw
        case rel => exact HN2.out _
        case measure => simp [intOf]; omega
    · have HV : Hid (oneE s.data.toList i = (0, 0, 2)) := Lib.hid (oneE_err (HO.out.trans (if_pos (mark_none (by
        have : j = 22 := by omega
        rw [this, List.take_of_length_le (by decide)] at hno; exact hno)))) (by decide))
      clear hno
      go_wp2_with fail
      go_ret3
      exact ⟨ret_one HV.out, below_two' hb1 hbw⟩

theorem rone_any (s : ByteArray) (i : Nat) (w : World) (hs : s.size ≤ 9223372036854775800) (hi : i ≤ s.size) : Calls Tryd.prog 11 #[.string s, .int .i64 i] w (OnePost s i w) := by
  by_cases h1 : cls s.data.toList i = 1
  · exact rone_name s i w (by omega) hi h1
  · by_cases h2 : cls s.data.toList i = 2
    · exact rone_num s i w (by omega) hi h2
    · exact rone_mark s i w hs hi h1 h2
end Go.Proofs.YthmhlhegmnpagaaDoor
