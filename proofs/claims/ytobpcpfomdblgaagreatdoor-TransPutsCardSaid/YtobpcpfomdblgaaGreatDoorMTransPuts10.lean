/- ExprScan, ActScan, TransScan, TransPcs, EvalOps, joined. -/
import Derived.Test.YtobpcpfomdblgaaGreatDoorMTransPuts05
import Derived.Test.YtobpcpfomdblgaaGreatDoorMTransPuts09
import Derived.Test.YtobpcpfomdblgaaGreatDoorMTransPuts06
import Derived.Lib.Join
import Derived.Test.YtobpcpfomdblgaaGreatDoorMTransPuts03
import Derived.Test.YtobpcpfomdblgaaGreatDoorMTransPuts02
import Derived.Test.YtobpcpfomdblgaaGreatDoorMTransPuts00
namespace Go.Proofs.YtobpcpfomdblgaaGreatDoor
namespace ExprSpec
open CurSpec TermSpec ScanSpec

theorem byte_all {P : UInt8 → Prop} (h : ∀ n : Fin 256, P (UInt8.ofNat n.val)) (c : UInt8) : P c := by
  have := h ⟨c.toNat, c.toNat_lt⟩
  simpa using this
theorem b_letter (c : UInt8) : NamesSpec.letter c = true → clsB c = 1 := byte_all (P := fun c => NamesSpec.letter c = true → clsB c = 1) (by decide +kernel) c
theorem b_later (c : UInt8) : NamesSpec.later c = true → isWord c = true := byte_all (P := fun c => NamesSpec.later c = true → isWord c = true) (by decide +kernel) c
theorem b_dig (c : UInt8) : ValSpec.isDig c = true → clsB c = 2 ∧ isNum c = true := byte_all (P := fun c => ValSpec.isDig c = true → clsB c = 2 ∧ isNum c = true) (by decide +kernel) c
/-- What stands behind a word or a number: a byte of neither, or none. -/
def Stop (r : List UInt8) : Prop := ∀ c, r.head? = some c → isWord c = false ∧ isNum c = false ∧ clsB c ≠ 1 ∧ clsB c ≠ 3
theorem stop_nil : Stop [] := by intro c h; cases h
theorem stop_of {a : UInt8} (h : isWord a = false ∧ isNum a = false ∧ clsB a ≠ 1 ∧ clsB a ≠ 3) (r : List UInt8) : Stop (a :: r) := by intro c hc; cases hc; exact h
theorem stop_32 (r : List UInt8) : Stop (32 :: r) := stop_of (by decide) r
theorem stop_40 (r : List UInt8) : Stop (40 :: r) := stop_of (by decide) r
theorem stop_41 (r : List UInt8) : Stop (41 :: r) := stop_of (by decide) r
theorem stop_44 (r : List UInt8) : Stop (44 :: r) := stop_of (by decide) r
theorem run_all {p : UInt8 → Bool} : ∀ {s r : List UInt8}, s.all p = true → (∀ c, r.head? = some c → p c = false) → run p (s ++ r) = s.length
  | [], [], _, _ => rfl
  | [], c :: r, _, h => by rw [List.nil_append, run, if_neg (by rw [h c rfl]; decide)]; rfl
  | a :: s, r, h, hr => by
    rw [List.all_cons, Bool.and_eq_true] at h
    rw [List.cons_append, run, if_pos h.1, run_all h.2 hr]
    rfl
theorem one_word {a : UInt8} {t r : List UInt8} (ha : clsB a = 1) (hw : (a :: t).all isWord = true) (hl : (a :: t).length ≤ 12) (hs : Stop r) : ScanSpec.one (a :: t ++ r) = (1, (a :: t).length, 0) := by
  have hr := run_all hw (fun c hc => (hs c hc).1)
  unfold ScanSpec.one
  rw [if_pos (show cls (a :: t ++ r) 0 = 1 from ha), hr, if_neg (by omega)]
theorem cls_past (s r : List UInt8) (hs : Stop r) : cls (s ++ r) s.length ≠ 1 ∧ cls (s ++ r) s.length ≠ 3 := by
  unfold cls
  rw [List.getElem?_append_right (Nat.le_refl _), Nat.sub_self]
  cases r with
  | nil => simp
  | cons c r => exact (hs c rfl).2.2
theorem one_num {a : UInt8} {t r : List UInt8} (ha : clsB a = 2) (hw : (a :: t).all isNum = true) (hl : (a :: t).length ≤ 9) (hs : Stop r) : ScanSpec.one (a :: t ++ r) = (2, (a :: t).length, 0) := by
  have hr := run_all hw (fun c hc => (hs c hc).2.1)
  have hc := cls_past (a :: t) r hs
  have h2 : cls (a :: t ++ r) 0 = 2 := ha
  unfold ScanSpec.one
  rw [if_neg (by omega), if_pos h2, hr, if_neg (by omega), if_neg (by omega)]
theorem one_mark {s r : List UInt8} (hc : cls (s ++ r) 0 = 0) (h0 : 0 < s.length) (hm : markLen (s ++ r) = s.length) : ScanSpec.one (s ++ r) = (3, s.length, 0) := by
  unfold ScanSpec.one
  rw [if_neg (by omega), if_neg (by omega), hm, if_neg (by omega)]

/-- From a token's place on: these tokens, then that place. -/
def Sc (l : List UInt8) : Nat → List Tx → Nat → Prop
  | i, [], j => i = j
  | i, (k, s) :: r, j => i < l.length ∧ ScanSpec.one (l.drop i) = (k, s.length, 0) ∧ (l.drop i).take s.length = s ∧ 0 < s.length ∧ Sc l (gap l (i + s.length)) r j
theorem sc_app {l : List UInt8} : ∀ {a b : List Tx} {i j k : Nat}, Sc l i a j → Sc l j b k → Sc l i (a ++ b) k
  | [], b, i, j, k, h, h' => by cases h; exact h'
  | (_, _) :: a, b, i, j, k, h, h' => ⟨h.1, h.2.1, h.2.2.1, h.2.2.2.1, sc_app h.2.2.2.2 h'⟩
theorem drop_lt {l : List UInt8} {i : Nat} {c : UInt8} {r : List UInt8} (h : l.drop i = c :: r) : i < l.length := by
  have := congrArg List.length h
  rw [List.length_drop, List.length_cons] at this
  omega
theorem drop_past {l : List UInt8} {i : Nat} {s r : List UInt8} (h : l.drop i = s ++ r) : l.drop (i + s.length) = r := by
  rw [← List.drop_drop, h, List.drop_left]
theorem sc_one {l : List UInt8} {i : Nat} {k : Int} {s r : List UInt8} (h : l.drop i = s ++ r) (h0 : 0 < s.length) (ho : ScanSpec.one (s ++ r) = (k, s.length, 0)) : Sc l i [(k, s)] (gap l (i + s.length)) := by
  refine ⟨?_, by rw [h]; exact ho, by rw [h, List.take_left], h0, rfl⟩
  match s, h0 with
  | a :: s, _ => exact drop_lt h
/-- A byte that is no blank, begins no remark. -/
abbrev Sol (c : UInt8) : Prop := clsB c ≠ 4 ∧ clsB c ≠ 5 ∧ c ≠ 62
theorem cls_head {l : List UInt8} {i : Nat} {c : UInt8} {r : List UInt8} (h : l.drop i = c :: r) : cls l i = clsB c := by
  have : (l.drop i)[0]? = some c := by rw [h]; rfl
  rw [List.getElem?_drop] at this
  exact cls_some this
theorem gap_here {l : List UInt8} {i : Nat} {c : UInt8} {r : List UInt8} (h : l.drop i = c :: r) (hs : Sol c) : gap l i = i := gap_stop (by rw [cls_head h]; exact hs.1) (by rw [cls_head h]; exact hs.2.1)
theorem gap_one {l : List UInt8} {i : Nat} {c : UInt8} {r : List UInt8} (h : l.drop i = 32 :: c :: r) (hs : Sol c) : gap l i = i + 1 := by
  rw [← gap_blank (l := l) (i := i) (by rw [cls_head h]; rfl)]
  exact gap_here (drop_past (s := [32]) h) hs
theorem bytes_app (a b : ByteArray) : (a ++ b).data.toList = a.data.toList ++ b.data.toList := by simp [ByteArray.data_append]
abbrev T (s : ByteArray) : List UInt8 := s.data.toList
theorem bk_yes {b : Prop} [Decidable b] (h : b) (s : ByteArray) : T (bk b s) = 40 :: (T s ++ [41]) := by
  rw [show bk b s = (⟨#[40]⟩ ++ s) ++ ⟨#[41]⟩ from if_pos h, T, bytes_app, bytes_app]
  rfl
theorem bk_no {b : Prop} [Decidable b] (h : ¬ b) (s : ByteArray) : T (bk b s) = T s := by rw [show bk b s = s from if_neg h]
def Fst (s : List UInt8) : Prop := ∃ c r, s = c :: r ∧ Sol c
theorem fst_bk {b : Prop} [Decidable b] {s : ByteArray} (h : Fst (T s)) : Fst (T (bk b s)) := by
  by_cases hb : b
  · rw [bk_yes hb]; exact ⟨40, _, rfl, by decide⟩
  · rw [bk_no hb]; exact h
theorem fst_app {a b : List UInt8} (h : Fst a) : Fst (a ++ b) := by
  obtain ⟨c, r, rfl, hc⟩ := h
  exact ⟨c, r ++ b, rfl, hc⟩
theorem sol_1 (c : UInt8) : clsB c = 1 ∨ clsB c = 2 → Sol c := byte_all (P := fun c => clsB c = 1 ∨ clsB c = 2 → clsB c ≠ 4 ∧ clsB c ≠ 5 ∧ c ≠ 62) (by decide +kernel) c
theorem name_parts {s : List UInt8} (h : NamesSpec.isName s = true) : ∃ a t, s = a :: t ∧ clsB a = 1 ∧ (a :: t).all isWord = true ∧ (a :: t).length ≤ 12 := by
  unfold NamesSpec.isName at h
  simp only [Bool.and_eq_true, decide_eq_true_eq] at h
  obtain ⟨⟨⟨⟨h1, h2⟩, _⟩, h4⟩, h5⟩ := h
  match s, h1 with
  | a :: t, _ =>
    refine ⟨a, t, rfl, b_letter a (by simpa using h5), ?_, h2⟩
    rw [List.all_eq_true] at h4 ⊢
    exact fun c hc => b_later c (h4 c hc)
theorem text_parts {n : Int} (h : 0 ≤ n ∧ n ≤ 1000000) : ∃ a t, ValSpec.text n = a :: t ∧ clsB a = 2 ∧ (a :: t).all isNum = true ∧ (a :: t).length ≤ 9 := by
  have hl : (ValSpec.text n).length ≤ 9 := by
    unfold ValSpec.text
    rw [if_neg (by omega)]
    have := ValSpec.digs_len 6 n.natAbs (by omega)
    omega
  have ha : (ValSpec.text n).all ValSpec.isDig = true := by
    unfold ValSpec.text
    rw [if_neg (by omega)]
    exact ValSpec.digs_all _
  have hn : ValSpec.text n ≠ [] := by
    unfold ValSpec.text
    rw [if_neg (by omega)]
    exact ValSpec.digs_ne _
  match hs : ValSpec.text n, hn with
  | a :: t, _ =>
    rw [hs] at hl ha
    rw [List.all_eq_true] at ha
    refine ⟨a, t, rfl, (b_dig a (ha a (by simp))).1, ?_, hl⟩
    rw [List.all_eq_true]
    exact fun c hc => (b_dig c (ha c hc)).2
theorem tx_fst : ∀ {e : Ex}, Good e → Fst (T (tx e))
  | .leaf t, h => by
    unfold tx
    rcases leaf_ops h.1 with h1 | h1 | h1 | h1 | h1
    · rw [if_pos h1]
      obtain ⟨a, r, hs, ha, _⟩ := text_parts (may_num h1 h.2).1
      exact ⟨a, r, by rw [← hs, T, list_bs], sol_1 a (.inr ha)⟩
    · rw [if_neg (by omega), if_pos h1]
      obtain ⟨a, r, hs, ha, _⟩ := name_parts (may_name (.inl h1) h.2).1
      exact ⟨a, r, hs, sol_1 a (.inl ha)⟩
    · rw [if_neg (by omega), if_neg (by omega), if_pos h1]
      exact ⟨116, [114, 117, 101], rfl, by decide⟩
    · rw [if_neg (by omega), if_neg (by omega), if_neg (by omega), if_pos h1]
      exact ⟨102, [97, 108, 115, 101], rfl, by decide⟩
    · rw [if_neg (by omega), if_neg (by omega), if_neg (by omega), if_neg (by omega), T, bytes_app, bytes_app]
      exact ⟨105, _, rfl, by decide⟩
  | .un o a, h => by
    unfold tx
    split
    · rw [T, bytes_app]; exact ⟨45, _, rfl, by decide⟩
    · rw [T, bytes_app]; exact ⟨110, _, rfl, by decide⟩
  | .bin o a b, h => by
    have ih := tx_fst h.2.1
    unfold tx
    split
    · simp only [T, bytes_app]; exact ⟨109, _, rfl, by decide⟩
    split
    · simp only [T, bytes_app]; exact ⟨109, _, rfl, by decide⟩
    · simp only [T, bytes_app]
      exact fst_app (fst_app (fst_app (fst_app (fst_bk ih))))
/-- An expression's text stands at a place: its tokens, and how far they reach. -/
def Scs (s : ByteArray) (ts : List Tx) : Prop := ∀ l i r, l.drop i = T s ++ r → Stop r → Sc l i ts (gap l (i + (T s).length))
theorem one_open (r : List UInt8) : ScanSpec.one ([40] ++ r) = (3, [(40 : UInt8)].length, 0) := one_mark rfl (by decide) (by simp [markLen, marks, List.isPrefixOf])
theorem one_close (r : List UInt8) : ScanSpec.one ([41] ++ r) = (3, [(41 : UInt8)].length, 0) := one_mark rfl (by decide) (by simp [markLen, marks, List.isPrefixOf])
theorem one_comma (r : List UInt8) : ScanSpec.one ([44] ++ r) = (3, [(44 : UInt8)].length, 0) := one_mark rfl (by decide) (by simp [markLen, marks, List.isPrefixOf])
theorem one_neg {c : UInt8} (r : List UInt8) (h : c ≠ 62) : ScanSpec.one ([45] ++ c :: r) = (3, [(45 : UInt8)].length, 0) := one_mark rfl (by decide) (by
  have : (62 == c) = false := by simpa using fun e : 62 = c => h e.symm
  simp [markLen, marks, List.isPrefixOf, this])
theorem scs_bk {b : Prop} [Decidable b] {s : ByteArray} {ts : List Tx} (hf : Fst (T s)) (h : Scs s ts) : Scs (bk b s) (twr b ts) := by
  intro l i r hd hr
  by_cases hb : b
  · rw [bk_yes hb] at hd ⊢
    rw [show twr b ts = (3, [40]) :: (ts ++ [(3, [41])]) from if_pos hb]
    obtain ⟨c, q, hc, hsol⟩ := hf
    have h0 : l.drop i = [40] ++ (T s ++ ([41] ++ r)) := by rw [hd]; simp
    have h1 : l.drop (i + 1) = T s ++ ([41] ++ r) := drop_past (s := [40]) h0
    have g1 : gap l (i + 1) = i + 1 := gap_here (c := c) (r := q ++ ([41] ++ r)) (by rw [h1, hc]; rfl) hsol
    have s1 := sc_one h0 (by decide) (one_open _)
    rw [show i + [(40 : UInt8)].length = i + 1 from rfl, g1] at s1
    have s2 := h l (i + 1) ([41] ++ r) h1 (stop_41 r)
    have h2 : l.drop (i + 1 + (T s).length) = [41] ++ r := drop_past h1
    rw [gap_here (c := 41) (r := r) h2 (by decide)] at s2
    have s3 := sc_one h2 (by decide) (one_close _)
    have := sc_app s1 (sc_app s2 s3)
    rwa [show i + 1 + (T s).length + [(41 : UInt8)].length = i + (40 :: (T s ++ [41])).length by simp; omega] at this
  · rw [bk_no hb] at hd ⊢
    rw [show twr b ts = ts from if_neg hb]
    exact h l i r hd hr
theorem sc_word {l : List UInt8} {i : Nat} {s r : List UInt8} (h : l.drop i = s ++ r) (hs : ∃ a t, s = a :: t ∧ clsB a = 1 ∧ (a :: t).all isWord = true ∧ (a :: t).length ≤ 12) (hr : Stop r) : Sc l i [(1, s)] (gap l (i + s.length)) := by
  obtain ⟨a, t, rfl, ha, hw, hl⟩ := hs
  exact sc_one h (by simp) (one_word ha hw hl hr)
theorem scs_leaf {t : Tm} (h : Good (.leaf t)) : Scs (tx (.leaf t)) (tk (.leaf t)) := by
  intro l i r hd hr
  unfold tx at hd ⊢
  unfold tk
  rcases leaf_ops h.1 with h1 | h1 | h1 | h1 | h1
  · rw [if_pos h1] at hd ⊢
    rw [if_pos h1]
    obtain ⟨a, q, hs, ha, hn, hl⟩ := text_parts (may_num h1 h.2).1
    rw [T, list_bs] at hd ⊢
    rw [hs] at hd ⊢
    exact sc_one hd (by simp) (one_num ha hn hl hr)
  · rw [if_neg (by omega), if_pos h1] at hd ⊢
    rw [if_neg (by omega), if_pos h1]
    exact sc_word hd (name_parts (may_name (.inl h1) h.2).1) hr
  · rw [if_neg (by omega), if_neg (by omega), if_pos h1] at hd ⊢
    rw [if_neg (by omega), if_neg (by omega), if_pos h1]
    exact sc_word hd ⟨116, [114, 117, 101], rfl, by decide, by decide, by decide⟩ hr
  · rw [if_neg (by omega), if_neg (by omega), if_neg (by omega), if_pos h1] at hd ⊢
    rw [if_neg (by omega), if_neg (by omega), if_neg (by omega), if_pos h1]
    exact sc_word hd ⟨102, [97, 108, 115, 101], rfl, by decide, by decide, by decide⟩ hr
  · rw [if_neg (by omega), if_neg (by omega), if_neg (by omega), if_neg (by omega)] at hd ⊢
    rw [if_neg (by omega), if_neg (by omega), if_neg (by omega), if_neg (by omega)]
    have hn := name_parts (may_name (.inr h1) h.2).1
    rw [T, bytes_app, bytes_app] at hd ⊢
    generalize t.s.data.toList = s at hd hn ⊢
    obtain ⟨a, q, hs, ha, hw, hl⟩ := hn
    have h0 : l.drop i = [105, 110] ++ ([40] ++ (s ++ ([41] ++ r))) := by
      rw [hd]; simp
    have hh1 : l.drop (i + 2) = [40] ++ (s ++ ([41] ++ r)) := drop_past (s := [105, 110]) h0
    have hh2 : l.drop (i + 2 + 1) = s ++ ([41] ++ r) := drop_past (s := [40]) hh1
    have hh3 : l.drop (i + 2 + 1 + s.length) = [41] ++ r := drop_past hh2
    have s0 := sc_word h0 ⟨105, [110], rfl, by decide, by decide, by decide⟩ (stop_40 _)
    rw [show i + [(105 : UInt8), 110].length = i + 2 from rfl, gap_here (c := 40) hh1 (by decide)] at s0
    have s1 := sc_one hh1 (by decide) (one_open _)
    rw [show i + 2 + [(40 : UInt8)].length = i + 2 + 1 from rfl, gap_here (c := a) (r := q ++ ([41] ++ r)) (by rw [hh2, hs]; rfl) (sol_1 a (.inl ha))] at s1
    have s2 := sc_word hh2 ⟨a, q, hs, ha, hw, hl⟩ (stop_41 r)
    rw [gap_here (c := 41) hh3 (by decide)] at s2
    have s3 := sc_one hh3 (by decide) (one_close _)
    have := sc_app s0 (sc_app s1 (sc_app s2 s3))
    rwa [show i + 2 + 1 + s.length + [(41 : UInt8)].length = i + (([105, 110, 40] : List UInt8) ++ s ++ [41]).length by simp; omega] at this
theorem scs_un {o : Int} {a : Ex} (h : Good (.un o a)) (ih : Scs (tx a) (tk a)) : Scs (tx (.un o a)) (tk (.un o a)) := by
  intro l i r hd hr
  have hf := tx_fst h.2
  have e1 : tx (.un o a) = if o = 3 then ⟨#[45]⟩ ++ bk (lev a < 7) (tx a) else ⟨#[110, 111, 116, 32]⟩ ++ bk (lev a < 3) (tx a) := rfl
  have e2 : tk (.un o a) = if o = 3 then (3, [45]) :: twr (lev a < 7) (tk a) else (1, lNot) :: twr (lev a < 3) (tk a) := rfl
  rw [e1] at hd ⊢
  rw [e2]
  by_cases ho : o = 3
  · rw [if_pos ho] at hd ⊢
    rw [if_pos ho]
    have hb := scs_bk (b := lev a < 7) hf ih
    obtain ⟨c, q, hc, hsol⟩ := fst_bk (b := lev a < 7) hf
    rw [T, bytes_app] at hd ⊢
    have h0 : l.drop i = [45] ++ (T (bk (lev a < 7) (tx a)) ++ r) := by rw [hd]; simp
    have h1 : l.drop (i + 1) = T (bk (lev a < 7) (tx a)) ++ r := drop_past (s := [45]) h0
    have s0 := sc_one (k := 3) h0 (by decide) (by rw [hc]; exact one_neg _ hsol.2.2)
    rw [show i + [(45 : UInt8)].length = i + 1 from rfl, gap_here (c := c) (r := q ++ r) (by rw [h1, hc]; rfl) hsol] at s0
    have := sc_app s0 (hb l (i + 1) r h1 hr)
    rwa [show i + 1 + (T (bk (lev a < 7) (tx a))).length = i + (([45] : List UInt8) ++ T (bk (lev a < 7) (tx a))).length by simp; omega] at this
  · rw [if_neg ho] at hd ⊢
    rw [if_neg ho]
    have hb := scs_bk (b := lev a < 3) hf ih
    obtain ⟨c, q, hc, hsol⟩ := fst_bk (b := lev a < 3) hf
    rw [T, bytes_app] at hd ⊢
    have h0 : l.drop i = lNot ++ ([32] ++ (T (bk (lev a < 3) (tx a)) ++ r)) := by rw [hd]; simp [lNot]
    have h1 : l.drop (i + 3) = [32] ++ (T (bk (lev a < 3) (tx a)) ++ r) := drop_past (s := lNot) h0
    have h2 : l.drop (i + 3 + 1) = T (bk (lev a < 3) (tx a)) ++ r := drop_past (s := [32]) h1
    have s0 := sc_word h0 ⟨110, [111, 116], rfl, by decide, by decide, by decide⟩ (stop_32 _)
    rw [show i + lNot.length = i + 3 from rfl, gap_one (c := c) (r := q ++ r) (by rw [h1, hc]; rfl) hsol] at s0
    have := sc_app s0 (hb l (i + 3 + 1) r h2 hr)
    rwa [show i + 3 + 1 + (T (bk (lev a < 3) (tx a))).length = i + (([110, 111, 116, 32] : List UInt8) ++ T (bk (lev a < 3) (tx a))).length by simp; omega] at this
theorem scs_two {w : List UInt8} {a b : Ex} (ha : Good a) (hb : Good b) (iha : Scs (tx a) (tk a)) (ihb : Scs (tx b) (tk b)) (hw : ∃ x t, w = x :: t ∧ clsB x = 1 ∧ (x :: t).all isWord = true ∧ (x :: t).length ≤ 12) {l : List UInt8} {i : Nat} {r : List UInt8}
    (hd : l.drop i = w ++ ([40] ++ (T (tx a) ++ ([44] ++ ([32] ++ (T (tx b) ++ ([41] ++ r))))))) :
    Sc l i ((1, w) :: (3, [40]) :: (tk a ++ (3, [44]) :: (tk b ++ [(3, [41])]))) (gap l (i + w.length + 1 + (T (tx a)).length + 1 + 1 + (T (tx b)).length + 1)) := by
  obtain ⟨c, q, hc, hsol⟩ := tx_fst ha
  obtain ⟨d, p, hp, hsol'⟩ := tx_fst hb
  have h1 := drop_past hd
  have h2 := drop_past h1
  have h3 := drop_past h2
  have h4 := drop_past h3
  have h5 := drop_past h4
  have h6 := drop_past h5
  have s0 := sc_word hd hw (stop_40 _)
  rw [gap_here (c := 40) h1 (by decide)] at s0
  have s1 := sc_one h1 (by decide) (one_open _)
  rw [gap_here (c := c) (r := q ++ ([44] ++ ([32] ++ (T (tx b) ++ ([41] ++ r))))) (by rw [h2, hc]; rfl) hsol] at s1
  have s2 := iha _ _ _ h2 (stop_44 _)
  rw [gap_here (c := 44) h3 (by decide)] at s2
  have s3 := sc_one h3 (by decide) (one_comma _)
  rw [gap_one (c := d) (r := p ++ ([41] ++ r)) (by rw [h4, hp]; rfl) hsol'] at s3
  have s4 := ihb _ _ _ h5 (stop_41 _)
  rw [gap_here (c := 41) h6 (by decide)] at s4
  have s5 := sc_one h6 (by decide) (one_close _)
  exact sc_app s0 (sc_app s1 (sc_app s2 (sc_app s3 (sc_app s4 s5))))
theorem sg_one : ∀ s ∈ sgs, ∀ r, ScanSpec.one (s.t.data.toList ++ 32 :: r) = ((if s.lev ≤ 2 then 1 else 3), s.t.data.toList.length, 0) := by
  intro s hs r
  unfold sgs at hs
  simp only [List.mem_cons, List.not_mem_nil, or_false] at hs
  rcases hs with rfl | rfl | rfl | rfl | rfl | rfl | rfl | rfl | rfl | rfl | rfl
  · exact one_word (a := 111) (t := [114]) rfl (by decide) (by decide) (stop_32 r)
  · exact one_word (a := 97) (t := [110, 100]) rfl (by decide) (by decide) (stop_32 r)
  all_goals exact one_mark rfl (by decide) (by simp [markLen, marks, List.isPrefixOf])
theorem gap_one' {l : List UInt8} {i : Nat} {c : UInt8} {r : List UInt8} (h : l.drop i = 32 :: c :: r) (h4 : clsB c ≠ 4) (h5 : clsB c ≠ 5) : gap l i = i + 1 := by
  rw [← gap_blank (l := l) (i := i) (by rw [cls_head h]; rfl)]
  have h1 : l.drop (i + 1) = c :: r := drop_past (s := [32]) h
  exact gap_stop (by rw [cls_head h1]; exact h4) (by rw [cls_head h1]; exact h5)
theorem sg_fst : ∀ s ∈ sgs, ∃ c r, s.t.data.toList = c :: r ∧ clsB c ≠ 4 ∧ clsB c ≠ 5 := by
  intro s hs
  unfold sgs at hs
  simp only [List.mem_cons, List.not_mem_nil, or_false] at hs
  rcases hs with rfl | rfl | rfl | rfl | rfl | rfl | rfl | rfl | rfl | rfl | rfl
  all_goals exact ⟨_, _, rfl, by decide, by decide⟩
theorem scs_bin {o : Int} {a b : Ex} (h : Good (.bin o a b)) (iha : Scs (tx a) (tk a)) (ihb : Scs (tx b) (tk b)) : Scs (tx (.bin o a b)) (tk (.bin o a b)) := by
  intro l i r hd hr
  have e1 : tx (.bin o a b) = if o = 7 then (((⟨#[109, 105, 110, 40]⟩ ++ tx a) ++ ⟨#[44, 32]⟩) ++ tx b) ++ ⟨#[41]⟩
    else if o = 8 then (((⟨#[109, 97, 120, 40]⟩ ++ tx a) ++ ⟨#[44, 32]⟩) ++ tx b) ++ ⟨#[41]⟩
    else (((bk (lev a < (sgOf o).left) (tx a) ++ ⟨#[32]⟩) ++ (sgOf o).t) ++ ⟨#[32]⟩) ++ bk (lev b < (sgOf o).right) (tx b) := rfl
  have e2 : tk (.bin o a b) = if o = 7 then (1, lMin) :: (3, [40]) :: (tk a ++ (3, [44]) :: (tk b ++ [(3, [41])]))
    else if o = 8 then (1, lMax) :: (3, [40]) :: (tk a ++ (3, [44]) :: (tk b ++ [(3, [41])]))
    else twr (lev a < (sgOf o).left) (tk a) ++ ((if (sgOf o).lev ≤ 2 then 1 else 3, (sgOf o).t.data.toList) :: twr (lev b < (sgOf o).right) (tk b)) := rfl
  rw [e1] at hd ⊢
  rw [e2]
  by_cases h7 : o = 7
  · rw [if_pos h7] at hd ⊢
    rw [if_pos h7]
    simp only [T, bytes_app] at hd ⊢
    have := scs_two (w := lMin) h.2.1 h.2.2 iha ihb ⟨109, [105, 110], rfl, by decide, by decide, by decide⟩ (l := l) (i := i) (r := r) (by rw [hd]; simp [lMin])
    rwa [show i + lMin.length + 1 + (T (tx a)).length + 1 + 1 + (T (tx b)).length + 1 = i + (([109, 105, 110, 40] : List UInt8) ++ T (tx a) ++ [44, 32] ++ T (tx b) ++ [41]).length by simp [lMin]; omega] at this
  by_cases h8 : o = 8
  · rw [if_neg h7, if_pos h8] at hd ⊢
    rw [if_neg h7, if_pos h8]
    simp only [T, bytes_app] at hd ⊢
    have := scs_two (w := lMax) h.2.1 h.2.2 iha ihb ⟨109, [97, 120], rfl, by decide, by decide, by decide⟩ (l := l) (i := i) (r := r) (by rw [hd]; simp [lMax])
    rwa [show i + lMax.length + 1 + (T (tx a)).length + 1 + 1 + (T (tx b)).length + 1 = i + (([109, 97, 120, 40] : List UInt8) ++ T (tx a) ++ [44, 32] ++ T (tx b) ++ [41]).length by simp [lMax]; omega] at this
  · rw [if_neg h7, if_neg h8] at hd ⊢
    rw [if_neg h7, if_neg h8]
    have hm := (sgOf_mem h.1 (by omega)).1
    obtain ⟨s, hs⟩ : ∃ s, s = sgOf o := ⟨_, rfl⟩
    rw [← hs] at hd hm ⊢
    have ba := scs_bk (b := lev a < s.left) (tx_fst h.2.1) iha
    have bb := scs_bk (b := lev b < s.right) (tx_fst h.2.2) ihb
    obtain ⟨d, p, hp, hsol⟩ := fst_bk (b := lev b < s.right) (tx_fst h.2.2)
    obtain ⟨c, q, hc, h4', h5'⟩ := sg_fst s hm
    have ho := sg_one s hm
    simp only [T, bytes_app] at hd ⊢
    have h0 : l.drop i = T (bk (lev a < s.left) (tx a)) ++ ([32] ++ (T s.t ++ ([32] ++ (T (bk (lev b < s.right) (tx b)) ++ r)))) := by rw [hd]; simp
    have h1 := drop_past h0
    have h2 := drop_past h1
    have h3 := drop_past h2
    have h4 := drop_past h3
    have s0 := ba _ _ _ h0 (stop_32 _)
    rw [gap_one' (c := c) (r := q ++ ([32] ++ (T (bk (lev b < s.right) (tx b)) ++ r))) (by rw [h1, show T s.t = c :: q from hc]; rfl) h4' h5'] at s0
    have s1 := sc_one h2 (by rw [show T s.t = c :: q from hc]; simp) (ho _)
    rw [gap_one (c := d) (r := p ++ r) (by rw [h3, hp]; rfl) hsol] at s1
    have s2 := bb _ _ _ h4 hr
    have := sc_app s0 (sc_app s1 s2)
    rwa [show i + (T (bk (lev a < s.left) (tx a))).length + [(32 : UInt8)].length + (T s.t).length + [(32 : UInt8)].length + (T (bk (lev b < s.right) (tx b))).length = i + (T (bk (lev a < s.left) (tx a)) ++ [32] ++ T s.t ++ [32] ++ T (bk (lev b < s.right) (tx b))).length by simp; omega] at this
theorem scs_all : ∀ e : Ex, Good e → Scs (tx e) (tk e)
  | .leaf _, h => scs_leaf h
  | .un _ a, h => scs_un h (scs_all a h.2)
  | .bin _ a b, h => scs_bin h (scs_all a h.2.1) (scs_all b h.2.2)
/-- The tokens that begin at a place. -/
def toksAt (l : List UInt8) : Nat → List Tx → List Tok
  | _, [] => []
  | i, (k, s) :: r => ⟨k, i, s.length⟩ :: toksAt l (gap l (i + s.length)) r
theorem scan_sc {l : List UInt8} : ∀ (ts : List Tx) (i j f : Nat) (acc : List Tok), Sc l i ts j → l.length ≤ j → l.length ≤ i + f → acc.length + ts.length ≤ 4000 → scanGo l f i acc = (acc ++ toksAt l i ts ++ [⟨0, j, 0⟩], 0, 0)
  | [], i, j, f, acc, h, hj, _, _ => by
    cases h
    cases f with
    | zero => simp [scanGo, toksAt]
    | succ f => rw [scanGo, if_pos hj]; simp [toksAt]
  | (k, s) :: r, i, j, f, acc, ⟨h1, h2, h3, h4, h5⟩, hj, hf, ha => by
    cases f with
    | zero => omega
    | succ f =>
      rw [List.length_cons] at ha
      have hle : i + s.length ≤ l.length := by
        have := congrArg List.length h3
        rw [List.length_take, List.length_drop] at this
        omega
      have hg := (gap_bd hle).1
      rw [scanGo, if_neg (by omega), h2]
      dsimp only
      rw [if_neg (by simp), if_neg (by omega), scan_sc r _ j f _ h5 hj (by omega) (by rw [List.length_append, List.length_singleton]; omega)]
      simp [toksAt]
theorem nx_toks {s : ByteArray} : ∀ (ts : List Tx) (i j : Nat) (c : Cur) (tl : List Tk), Sc (T s) i ts j → c.bad = 0 → c.L = (toksAt (T s) i ts).map (tokOf s) ++ tl → Nx c ts ∧ (onN ts.length c).L = tl
  | [], i, j, c, tl, _, _, hc => ⟨trivial, hc⟩
  | (k, x) :: r, i, j, c, tl, ⟨h1, h2, h3, h4, h5⟩, hb, hc => by
    rw [toksAt, List.map_cons, List.cons_append] at hc
    have hon : on c = ⟨(toksAt (T s) (gap (T s) (i + x.length)) r).map (tokOf s) ++ tl, (tokOf s ⟨k, i, x.length⟩).l, (tokOf s ⟨k, i, x.length⟩).c, c.a1, c.a2, c.bad⟩ := by unfold on; rw [hc]
    have hnx : next c = tokOf s ⟨k, i, x.length⟩ := by unfold next; rw [if_pos hb, hc]
    have ih := nx_toks r _ j (on c) tl h5 (by rw [hon]; exact hb) (by rw [hon])
    refine ⟨⟨by rw [hnx]; rfl, ?_, ih.1⟩, ih.2⟩
    rw [hnx]
    show s.extract i (i + x.length) = bs x
    apply ByteArray.ext
    apply Array.toList_inj.mp
    rw [ByteArray.data_extract, Array.toList_extract, List.extract_eq_take_drop, show i + x.length - i = x.length by omega]
    exact h3
theorem tk_len : ∀ {e : Ex}, Good e → (tk e).length ≤ 6 * (flat e).length
  | .leaf t, h => by
    show _ ≤ 6
    unfold tk
    repeat' split
    all_goals simp
  | .un o a, h => by
    have ih := tk_len h.2
    show _ ≤ 6 * ((flat a).length + 1)
    unfold tk twr
    repeat' split
    all_goals simp only [List.length_cons, List.length_append, List.length_nil]; omega
  | .bin o a b, h => by
    have iha := tk_len h.2.1
    have ihb := tk_len h.2.2
    show _ ≤ 6 * ((flat a ++ flat b).length + 1)
    rw [List.length_append]
    unfold tk twr
    repeat' split
    all_goals simp only [List.length_cons, List.length_append, List.length_nil]; omega
end ExprSpec
end Go.Proofs.YtobpcpfomdblgaaGreatDoor

namespace Go.Proofs.YtobpcpfomdblgaaGreatDoor
namespace ActSpec
open CurSpec TermSpec EvalSpec NamesSpec ExprSpec ScanSpec

/-- An act's tokens. -/
def tkA (t : Ta) : List Tx := if t.any then [(1, [97, 110, 121]), (1, T t.s)] else (1, T t.s) :: (3, [58, 61]) :: tk t.e
def tkL : List Ta → List Tx
  | [] => []
  | [t] => tkA t
  | t :: u :: r => tkA t ++ (3, [44]) :: tkL (u :: r)
theorem txA_any {t : Ta} (h : t.any = true) : T (txA t) = [97, 110, 121] ++ ([32] ++ T t.s) := by
  unfold txA
  rw [if_pos h, T, bytes_app]
  rfl
theorem txA_set {t : Ta} (h : t.any = false) : T (txA t) = T t.s ++ ([32] ++ ([58, 61] ++ ([32] ++ T (tx t.e)))) := by
  unfold txA
  rw [if_neg (by rw [h]; decide), T, bytes_app, bytes_app]
  simp
theorem txA_fst {t : Ta} (h : t.Ok) : Fst (T (txA t)) := by
  rcases ha : t.any with _ | _
  · rw [txA_set ha]
    obtain ⟨a, q, hs, hc, _⟩ := name_parts h.1
    rw [show T t.s = a :: q from hs]
    exact ⟨a, _, rfl, sol_1 a (.inl hc)⟩
  · rw [txA_any ha]
    exact ⟨97, _, rfl, by decide⟩
theorem one_set (r : List UInt8) : ScanSpec.one ([58, 61] ++ r) = (3, [(58 : UInt8), 61].length, 0) := ExprSpec.one_mark rfl (by decide) (by simp [markLen, marks, List.isPrefixOf])
theorem scs_act {t : Ta} (h : t.Ok) : Scs (txA t) (tkA t) := by
  intro l i r hd hr
  unfold tkA
  have hn := name_parts h.1
  rcases ha : t.any with _ | _
  · rw [txA_set ha] at hd ⊢
    rw [if_neg (by decide)]
    obtain ⟨hg, -⟩ := h.2 ha
    obtain ⟨c, q, hc, hsol⟩ := tx_fst hg
    have h0 : l.drop i = T t.s ++ ([32] ++ ([58, 61] ++ ([32] ++ (T (tx t.e) ++ r)))) := by rw [hd]; simp
    have h1 := drop_past h0
    have h2 := drop_past h1
    have h3 := drop_past h2
    have h4 := drop_past h3
    have s0 := sc_word h0 hn (stop_32 _)
    rw [gap_one' (c := 58) (r := [61] ++ ([32] ++ (T (tx t.e) ++ r))) h1 (by decide) (by decide)] at s0
    have s1 := sc_one h2 (by decide) (one_set _)
    rw [gap_one (c := c) (r := q ++ r) (by rw [h3, hc]; rfl) hsol] at s1
    have s2 := scs_all t.e hg _ _ _ h4 hr
    have := sc_app s0 (sc_app s1 s2)
    rwa [show i + (T t.s).length + [(32 : UInt8)].length + [(58 : UInt8), 61].length + [(32 : UInt8)].length + (T (tx t.e)).length = i + (T t.s ++ ([32] ++ ([58, 61] ++ ([32] ++ T (tx t.e))))).length by simp; omega] at this
  · rw [txA_any ha] at hd ⊢
    rw [if_pos rfl]
    have h0 : l.drop i = [97, 110, 121] ++ ([32] ++ (T t.s ++ r)) := by rw [hd]; simp
    have h1 := drop_past h0
    have h2 := drop_past h1
    obtain ⟨a, q, hs, hca, hw, hl⟩ := hn
    have s0 := sc_word h0 ⟨97, [110, 121], rfl, by decide, by decide, by decide⟩ (stop_32 _)
    rw [gap_one (c := a) (r := q ++ r) (by rw [h1, show T t.s = a :: q from hs]; rfl) (sol_1 a (.inl hca))] at s0
    have s1 := sc_word h2 ⟨a, q, hs, hca, hw, hl⟩ hr
    have := sc_app s0 s1
    rwa [show i + [(97 : UInt8), 110, 121].length + [(32 : UInt8)].length + (T t.s).length = i + ([97, 110, 121] ++ ([32] ++ T t.s)).length by simp; omega] at this
theorem putT_cons (t u : Ta) (r : List Ta) : putT (t :: u :: r) = T (txA t) ++ ([44] ++ ([32] ++ putT (u :: r))) := by
  unfold putT
  rw [List.map_cons, Lib.join_cons, List.map_cons, Lib.join_cons]
  simp [Lib.joinTail]
theorem putT_one (t : Ta) : putT [t] = T (txA t) := by unfold putT; rw [List.map_cons, List.map_nil, Lib.join_one]
theorem putT_fst {t : Ta} (h : t.Ok) (r : List Ta) : Fst (putT (t :: r)) := by
  cases r with
  | nil => rw [putT_one]; exact txA_fst h
  | cons u r => rw [putT_cons]; exact fst_app (txA_fst h)
theorem sc_acts {l : List UInt8} : ∀ {ts : List Ta} {i : Nat} {r : List UInt8}, ts ≠ [] → (∀ t ∈ ts, t.Ok) → l.drop i = putT ts ++ r → Stop r → Sc l i (tkL ts) (gap l (i + (putT ts).length))
  | [], _, _, h, _, _, _ => absurd rfl h
  | [t], i, r, _, h, hd, hr => by
    rw [putT_one] at hd ⊢
    exact scs_act (h t (by simp)) l i r hd hr
  | t :: u :: q, i, r, _, h, hd, hr => by
    rw [putT_cons] at hd ⊢
    have h0 : l.drop i = T (txA t) ++ ([44] ++ ([32] ++ (putT (u :: q) ++ r))) := by rw [hd]; simp
    have h1 := drop_past h0
    have h2 := drop_past h1
    have h3 := drop_past h2
    obtain ⟨c, z, hc, hsol⟩ := putT_fst (h u (by simp)) q
    have s0 := scs_act (h t (by simp)) l i _ h0 (stop_44 _)
    rw [gap_here (c := 44) h1 (by decide)] at s0
    have s1 := sc_one h1 (by decide) (one_comma _)
    rw [gap_one (c := c) (r := z ++ r) (by rw [h2, hc]; rfl) hsol] at s1
    have s2 := sc_acts (ts := u :: q) (by simp) (fun v hv => h v (by simp only [List.mem_cons] at hv ⊢; exact .inr hv)) h3 hr
    have := sc_app s0 (sc_app s1 s2)
    rwa [show i + (T (txA t)).length + [(44 : UInt8)].length + [(32 : UInt8)].length + (putT (u :: q)).length = i + (T (txA t) ++ ([44] ++ ([32] ++ putT (u :: q)))).length by simp; omega] at this
theorem tkA_len {t : Ta} (h : t.Ok) : (tkA t).length ≤ 242 := by
  unfold tkA
  split
  · simp
  · rename_i ha
    have ha' : t.any = false := by simpa using ha
    have h1 := tk_len (h.2 ha').1
    have h2 := ta_few h ha'
    simp only [List.length_cons]
    omega
theorem tkL_len : ∀ {ts : List Ta}, (∀ t ∈ ts, t.Ok) → (tkL ts).length ≤ 243 * ts.length
  | [], _ => by simp [tkL]
  | [t], h => by have := tkA_len (h t (by simp)); simp only [tkL, List.length_cons, List.length_nil]; omega
  | t :: u :: r, h => by
    have h1 := tkA_len (h t (by simp))
    have h2 := tkL_len (ts := u :: r) (fun v hv => h v (by simp only [List.mem_cons] at hv ⊢; exact .inr hv))
    simp only [tkL, List.length_append, List.length_cons] at h2 ⊢
    omega

/-- What stands behind an act: nothing, or a mark that is no sign. -/
def Past (c : Cur) : Prop := (next c).k = 0 ∨ ((next c).k = 3 ∧ ExprSpec.look (next c).t = none)
theorem past_mark {c : Cur} {s : ByteArray} (h1 : (next c).k = 3) (h2 : (next c).t = s) (h : ExprSpec.look s = none) : Past c := .inr ⟨h1, by rw [h2]; exact h⟩
theorem past_sign {c : Cur} (h : Past c) (L k : Int) : sgn c L k = none := by
  rcases h with h | h
  · exact end_sign h L k
  · refine sgn_none fun s hs => ?_
    have h1 := (sgn_some hs).1
    rw [h.2] at h1
    cases h1
theorem rdE_tree {e : Ex} (hg : ExprSpec.Good e) (hk : chk (flat e) = 0) {c : Cur} (h0 : c.bad = 0) (hn : Nx c (tk e)) (hp : Past (onN (tk e).length c)) : rdE c = (onN (tk e).length c, flat e) := by
  have hbad : (onN (tk e).length c).bad = 0 := by rw [onN_bad]; exact h0
  have hq : Qu (lev e) (onN (tk e).length c) := fun s hs => by rw [past_sign hp] at hs; cases hs
  have hR : S (c.L.length + 1) c 1 = (onN (tk e).length c, flat e) := by
    rw [reads_all e hg c _ 1 h0 hn hq (by decide) (lev_pos hg).1 (by decide) (fit_self c)]
    exact C_stop _ _ (past_sign hp _ _)
  unfold rdE readP
  rw [hR]
  dsimp only
  rw [if_pos hbad, hk, fail_zero, if_pos rfl]
theorem bs_T (s : ByteArray) : bs (T s) = s := by apply ByteArray.ext; simp [bs]
theorem name_yes {c : Cur} {s : ByteArray} (h0 : c.bad = 0) (h1 : (next c).k = 1) (h2 : (next c).t = bs (T s)) (hn : isName s.data.toList = true) : nameC c = on c ∧ nameS c = s := by
  rw [bs_T] at h2
  have hb : nameB c = true := by unfold nameB; rw [h2]; simp [h0, h1, hn]
  unfold nameC nameS
  rw [if_pos hb, if_pos hb]
  exact ⟨rfl, h2⟩
theorem oneR_act {t : Ta} (h : t.Ok) {c : Cur} (h0 : c.bad = 0) (hn : Nx c (tkA t)) (hp : Past (onN (tkA t).length c)) : oneR c = (onN (tkA t).length c, t.ac) := by
  have h0' : (on c).bad = 0 := by rw [(on_bad c).1]; exact h0
  rcases ha : t.any with _ | _
  · have hk : tkA t = (1, T t.s) :: (3, [58, 61]) :: tk t.e := by unfold tkA; rw [if_neg (by rw [ha]; decide)]
    rw [hk] at hn hp ⊢
    obtain ⟨hg, hck⟩ := h.2 ha
    obtain ⟨h1, h2, h3, h4, h5⟩ := hn
    obtain ⟨hc, hs⟩ := name_yes h0 h1 h2 h.1
    have hna : ¬ isB c 1 wAny = true := isB_ne (by rw [h2, bs_T]; exact name_ne h.1 (by decide))
    have hw : want (on c) 3 wSet = on (on c) := if_pos (isB_yes' h0' h3 h4)
    have hac : t.ac = ⟨t.s, false, flat t.e⟩ := by unfold Ta.ac; rw [ha]; rfl
    unfold oneR
    rw [if_neg hna, hc, hs, hw, rdE_tree hg hck (c := on (on c)) (by rw [(on_bad _).1]; exact h0') h5 hp, hac]
    rfl
  · have hk : tkA t = [(1, [97, 110, 121]), (1, T t.s)] := by unfold tkA; rw [if_pos ha]
    rw [hk] at hn ⊢
    obtain ⟨h1, h2, h3, h4, -⟩ := hn
    obtain ⟨hc, hs⟩ := name_yes h0' h3 h4 h.1
    have hya : isB c 1 wAny = true := isB_yes' h0 h1 h2
    have hac : t.ac = ⟨t.s, true, []⟩ := by unfold Ta.ac; rw [ha]; rfl
    unfold oneR
    rw [if_pos hya, hc, hs, hac]
    rfl
theorem allR_acts : ∀ {ts : List Ta} {c : Cur} {out : List Ac}, ts ≠ [] → (∀ t ∈ ts, t.Ok) → out.length + ts.length ≤ 8 → c.bad = 0 → Nx c (tkL ts) → Past (onN (tkL ts).length c) → ¬ isB (onN (tkL ts).length c) 3 wCom = true → allR c out = (onN (tkL ts).length c, out ++ ts.map Ta.ac)
  | [], _, _, h, _, _, _, _, _, _ => absurd rfl h
  | [t], c, out, _, h, h8, h0, hn, hp, hnc => by
    have h8' : out.length < 8 := by simp only [List.length_cons, List.length_nil] at h8; omega
    have h1 := oneR_act (h t (by simp)) h0 hn hp
    have hs : stepR c out = (onN (tkA t).length c, out ++ [t.ac]) := by
      unfold stepR fullR
      rw [if_neg (by omega), h1]
    rw [allR_step, hs]
    exact tailR_no (c := onN (tkA t).length c) (out := out ++ [t.ac]) hnc
  | t :: u :: r, c, out, _, h, h8, h0, hn, hp, hnc => by
    have h8' : out.length < 8 := by simp only [List.length_cons] at h8; omega
    rw [show tkL (t :: u :: r) = tkA t ++ (3, [44]) :: tkL (u :: r) from rfl] at hn hp hnc ⊢
    rw [nx_app] at hn
    obtain ⟨hn1, hn2, hn3, hn4⟩ := hn
    have h1 := oneR_act (h t (by simp)) h0 hn1 (past_mark hn2 hn3 (by decide))
    have hbad : (onN (tkA t).length c).bad = 0 := by rw [onN_bad]; exact h0
    have hs : stepR c out = (onN (tkA t).length c, out ++ [t.ac]) := by
      unfold stepR fullR
      rw [if_neg (by omega), h1]
    have hL : ∀ x, onN (tkA t ++ (3, [44]) :: tkL (u :: r)).length x = onN (tkL (u :: r)).length (on (onN (tkA t).length x)) := fun x => by
      rw [List.length_append, List.length_cons, onN_add]
      rfl
    rw [hL] at hp hnc ⊢
    rw [allR_step, hs]
    unfold tailR
    dsimp only
    have hyc : isB (onN (tkA t).length c) 3 wCom = true := isB_yes' hbad hn2 hn3
    rw [if_pos hyc, allR_acts (ts := u :: r) (by simp) (fun v hv => h v (by simp only [List.mem_cons] at hv ⊢; exact .inr hv)) (by rw [List.length_append]; simp only [List.length_cons, List.length_nil] at h8 ⊢; omega) (by rw [(on_bad _).1]; exact hbad) hn4 hp hnc]
    simp
end ActSpec
end Go.Proofs.YtobpcpfomdblgaaGreatDoor

namespace Go.Proofs.YtobpcpfomdblgaaGreatDoor
namespace TransSpec
open CurSpec TermSpec EvalSpec NamesSpec ExprSpec ScanSpec ActSpec

/-- The parts' tokens. -/
def tkH (x : Tt) : List Tx := if x.ev.size = 0 then [(1, [97, 117, 116, 111])] else [(1, [111, 110]), (1, T x.ev)]
def tkG : Option Ex → List Tx
  | none => []
  | some e => (3, [91]) :: (tk e ++ [(3, [93])])
def tkC (ts : List Ta) : List Tx := if ts = [] then [] else (3, [47]) :: tkL ts
def tkD (s : ByteArray) : List Tx := if s.size = 0 then [] else [(3, [45, 62]), (1, T s)]
/-- A transition's tokens. -/
def tkT (x : Tt) : List Tx := tkH x ++ (tkG x.g ++ (tkC x.ts ++ (tkD x.tg ++ [(3, [59])])))

/-- A piece of a text: its tokens, from the gap ahead of it to the gap behind it. -/
def Pc (s : List UInt8) (ts : List Tx) : Prop := ∀ (l : List UInt8) (i : Nat) (r : List UInt8), l.drop i = s ++ r → Stop r → Sc l (gap l i) ts (gap l (i + s.length))
/-- What a word may stand ahead of. -/
def Stops (s : List UInt8) : Prop := ∀ r, Stop r → Stop (s ++ r)
theorem pc_app {a b : List UInt8} {ta tb : List Tx} (ha : Pc a ta) (hb : Pc b tb) (hs : Stops b) : Pc (a ++ b) (ta ++ tb) := by
  intro l i r hd hr
  have h0 : l.drop i = a ++ (b ++ r) := by rw [hd]; simp
  have s0 := ha l i _ h0 (hs r hr)
  have s1 := hb l _ r (drop_past h0) hr
  have := sc_app s0 s1
  rwa [show i + a.length + b.length = i + (a ++ b).length by simp; omega] at this
theorem pc_nil : Pc [] [] := fun _ _ _ _ _ => rfl
theorem stops_nil : Stops [] := fun _ h => h
theorem stops_of {a : UInt8} {s : List UInt8} (h : isWord a = false ∧ isNum a = false ∧ clsB a ≠ 1 ∧ clsB a ≠ 3) : Stops (a :: s) := fun _ _ => stop_of h _
theorem stops_app {a b : List UInt8} (ha : Stops a) (hb : Stops b) : Stops (a ++ b) := fun r h => by rw [List.append_assoc]; exact ha _ (hb r h)
/-- A text and its tokens, with no gap ahead. -/
def Sl (s : List UInt8) (ts : List Tx) : Prop := ∀ (l : List UInt8) (i : Nat) (r : List UInt8), l.drop i = s ++ r → Stop r → Sc l i ts (gap l (i + s.length))
theorem pc_here {s : List UInt8} {ts : List Tx} (hf : Fst s) (h : Sl s ts) : Pc s ts := by
  intro l i r hd hr
  obtain ⟨c, q, hc, hsol⟩ := hf
  rw [gap_here (c := c) (r := q ++ r) (by rw [hd, hc]; rfl) hsol]
  exact h l i r hd hr
theorem pc_blank {s : List UInt8} {ts : List Tx} (hf : Fst s) (h : Sl s ts) : Pc (32 :: s) ts := by
  intro l i r hd hr
  obtain ⟨c, q, hc, hsol⟩ := hf
  rw [gap_one (c := c) (r := q ++ r) (by rw [hd, hc]; rfl) hsol]
  have := h l (i + 1) r (drop_past (s := [32]) hd) hr
  rwa [show i + 1 + s.length = i + (32 :: s).length by simp; omega] at this
theorem one_bra (r : List UInt8) : ScanSpec.one ([91] ++ r) = (3, [(91 : UInt8)].length, 0) := ExprSpec.one_mark rfl (by decide) (by simp [markLen, marks, List.isPrefixOf])
theorem one_ket (r : List UInt8) : ScanSpec.one ([93] ++ r) = (3, [(93 : UInt8)].length, 0) := ExprSpec.one_mark rfl (by decide) (by simp [markLen, marks, List.isPrefixOf])
theorem one_do (r : List UInt8) : ScanSpec.one ([47] ++ r) = (3, [(47 : UInt8)].length, 0) := ExprSpec.one_mark rfl (by decide) (by simp [markLen, marks, List.isPrefixOf])
theorem one_to (r : List UInt8) : ScanSpec.one ([45, 62] ++ r) = (3, [(45 : UInt8), 62].length, 0) := ExprSpec.one_mark rfl (by decide) (by simp [markLen, marks, List.isPrefixOf])
theorem one_semi (r : List UInt8) : ScanSpec.one ([59] ++ r) = (3, [(59 : UInt8)].length, 0) := ExprSpec.one_mark rfl (by decide) (by simp [markLen, marks, List.isPrefixOf])
theorem name_fst {s : ByteArray} (h : isName s.data.toList = true) : Fst (T s) := by
  obtain ⟨a, q, hs, hca, _⟩ := name_parts h
  exact ⟨a, q, hs, sol_1 a (.inl hca)⟩
theorem sl_word {s : List UInt8} (h : ∃ a t, s = a :: t ∧ clsB a = 1 ∧ (a :: t).all isWord = true ∧ (a :: t).length ≤ 12) : Sl s [(1, s)] := fun _ _ _ hd hr => sc_word hd h hr
theorem sl_name {s : ByteArray} (h : isName s.data.toList = true) : Sl (T s) [(1, T s)] := sl_word (name_parts h)
/-- A mark, then a piece. -/
theorem sl_mark {m s : List UInt8} {ts : List Tx} (h0 : 0 < m.length) (hm : ∀ r, ScanSpec.one (m ++ r) = (3, m.length, 0)) (h : Pc s ts) : Sl (m ++ s) ((3, m) :: ts) := by
  intro l i r hd hr
  have hd' : l.drop i = m ++ (s ++ r) := by rw [hd]; simp
  have s0 := sc_one hd' h0 (hm _)
  have s1 := h l _ r (drop_past hd') hr
  have := sc_app s0 s1
  rwa [show i + m.length + s.length = i + (m ++ s).length by simp; omega] at this
theorem sl_app {a b : List UInt8} {ta tb : List Tx} (ha : Sl a ta) (hb : Pc b tb) (hs : Stops b) : Sl (a ++ b) (ta ++ tb) := by
  intro l i r hd hr
  have h0 : l.drop i = a ++ (b ++ r) := by rw [hd]; simp
  have s0 := ha l i _ h0 (hs r hr)
  have s1 := hb l _ r (drop_past h0) hr
  have := sc_app s0 s1
  rwa [show i + a.length + b.length = i + (a ++ b).length by simp; omega] at this
theorem sl_ket : Sl [93] [(3, [93])] := fun _ _ _ hd _ => sc_one hd (by decide) (one_ket _)
theorem sl_semi : Sl [59] [(3, [59])] := fun _ _ _ hd _ => sc_one hd (by decide) (one_semi _)
theorem sl_acts {ts : List Ta} (hne : ts ≠ []) (h : ∀ t ∈ ts, t.Ok) : Sl (putT ts) (tkL ts) := fun _ _ _ hd hr => sc_acts hne h hd hr
theorem okN_name {s : ByteArray} (h : okN s = true) (h0 : s.size ≠ 0) : isName s.data.toList = true := by
  unfold okN at h
  rw [Bool.or_eq_true, decide_eq_true_eq] at h
  exact h.resolve_left h0
theorem acts_fst {ts : List Ta} (hne : ts ≠ []) (h : ∀ t ∈ ts, t.Ok) : Fst (putT ts) := by
  cases ts with
  | nil => exact absurd rfl hne
  | cons t r => exact putT_fst (h t (by simp)) r
theorem putB_T (ts : List Ta) : T (putB ts) = putT ts := by simp [putB, T]
theorem pc_head {x : Tt} (h : x.Ok) : Pc (T (headB x)) (tkH x) ∧ Sl (T (headB x)) (tkH x) ∧ Fst (T (headB x)) := by
  unfold headB tkH
  by_cases h0 : x.ev.size = 0
  · rw [if_pos h0, if_pos h0]
    have h1 : Sl (T wAuto) [(1, [97, 117, 116, 111])] := sl_word ⟨97, [117, 116, 111], rfl, by decide, by decide, by decide⟩
    have h2 : Fst (T wAuto) := ⟨97, _, rfl, by decide⟩
    exact ⟨pc_here h2 h1, h1, h2⟩
  · rw [if_neg h0, if_neg h0]
    have hn := okN_name h.ev h0
    have e : T ((⟨#[111, 110, 32]⟩ : ByteArray) ++ x.ev) = [111, 110] ++ (32 :: T x.ev) := by rw [T, bytes_app]; rfl
    rw [e]
    have h1 : Sl ([111, 110] ++ (32 :: T x.ev)) ([(1, [111, 110])] ++ [(1, T x.ev)]) := sl_app (sl_word ⟨111, [110], rfl, by decide, by decide, by decide⟩) (pc_blank (name_fst hn) (sl_name hn)) (stops_of (by decide))
    have h2 : Fst ([111, 110] ++ (32 :: T x.ev)) := ⟨111, _, rfl, by decide⟩
    exact ⟨pc_here h2 h1, h1, h2⟩
theorem pc_guard {g : Option Ex} (h : ∀ e, g = some e → ExprSpec.Good e ∧ chk (flat e) = 0) : Pc (T (guardB g)) (tkG g) ∧ Stops (T (guardB g)) := by
  cases g with
  | none => exact ⟨pc_nil, stops_nil⟩
  | some e =>
    obtain ⟨hg, -⟩ := h e rfl
    have e1 : T (guardB (some e)) = 32 :: ([91] ++ (T (tx e) ++ [93])) := by unfold guardB; rw [T, bytes_app, bytes_app]; simp
    rw [e1]
    have h2 : Sl (T (tx e) ++ [93]) (tk e ++ [(3, [93])]) := sl_app (scs_all e hg) (pc_here ⟨93, [], rfl, by decide⟩ sl_ket) (stops_of (by decide))
    exact ⟨pc_blank ⟨91, _, rfl, by decide⟩ (sl_mark (by decide) one_bra (pc_here (fst_app (tx_fst hg)) h2)), stops_of (by decide)⟩
theorem pc_acts {ts : List Ta} (h : ∀ t ∈ ts, t.Ok) : Pc (T (actsB ts)) (tkC ts) ∧ Stops (T (actsB ts)) := by
  unfold actsB tkC
  by_cases h0 : ts = []
  · rw [if_pos h0, if_pos h0]
    exact ⟨pc_nil, stops_nil⟩
  · rw [if_neg h0, if_neg h0]
    have e1 : T ((⟨#[32, 47, 32]⟩ : ByteArray) ++ putB ts) = 32 :: ([47] ++ (32 :: putT ts)) := by rw [T, bytes_app, ← putB_T]; rfl
    rw [e1]
    exact ⟨pc_blank ⟨47, _, rfl, by decide⟩ (sl_mark (by decide) one_do (pc_blank (acts_fst h0 h) (sl_acts h0 h))), stops_of (by decide)⟩
theorem pc_target {s : ByteArray} (h : okN s = true) : Pc (T (tgB s)) (tkD s) ∧ Stops (T (tgB s)) := by
  unfold tgB tkD
  by_cases h0 : s.size = 0
  · rw [if_pos h0, if_pos h0]
    exact ⟨pc_nil, stops_nil⟩
  · rw [if_neg h0, if_neg h0]
    have hn := okN_name h h0
    have e1 : T ((⟨#[32, 45, 62, 32]⟩ : ByteArray) ++ s) = 32 :: ([45, 62] ++ (32 :: T s)) := by rw [T, bytes_app]; rfl
    rw [e1]
    exact ⟨pc_blank ⟨45, _, rfl, by decide⟩ (sl_mark (by decide) one_to (pc_blank (name_fst hn) (sl_name hn))), stops_of (by decide)⟩
theorem txT_T (x : Tt) : T (txT x) = T (headB x) ++ (T (guardB x.g) ++ (T (actsB x.ts) ++ (T (tgB x.tg) ++ [59]))) := by
  unfold txT
  simp only [T, bytes_app, List.append_assoc]
/-- A transition's text has the transition's tokens. -/
theorem sl_trans {x : Tt} (h : x.Ok) : Sl (T (txT x)) (tkT x) ∧ Fst (T (txT x)) := by
  have h1 := pc_head h
  have h2 := pc_guard h.g
  have h3 := pc_acts h.ts
  have h4 := pc_target h.tg
  have h5 : Pc [59] [(3, [59])] := pc_here ⟨59, [], rfl, by decide⟩ sl_semi
  have s5 : Stops [59] := stops_of (by decide)
  rw [txT_T]
  unfold tkT
  exact ⟨sl_app h1.2.1 (pc_app h2.1 (pc_app h3.1 (pc_app h4.1 h5 s5) (stops_app h4.2 s5)) (stops_app h3.2 (stops_app h4.2 s5))) (stops_app h2.2 (stops_app h3.2 (stops_app h4.2 s5))), fst_app h1.2.2⟩
theorem tkT_len {x : Tt} (h : x.Ok) : (tkT x).length ≤ 2200 := by
  have h3 := tkL_len h.ts
  have h8 := h.few
  have h1 : (tkH x).length ≤ 2 := by unfold tkH; split <;> simp
  have h2 : (tkG x.g).length ≤ 242 := by
    have hg := h.g
    cases hx : x.g with
    | none => simp [tkG]
    | some e =>
      obtain ⟨ha, hb⟩ := hg e hx
      have h1 := tk_len ha
      have h2 := ex_few hb
      simp only [tkG, List.length_cons, List.length_append, List.length_nil]
      omega
  have h4 : (tkD x.tg).length ≤ 2 := by unfold tkD; split <;> simp
  have h5 : (tkC x.ts).length ≤ 1945 := by
    unfold tkC
    split
    · simp
    · rw [List.length_cons]; omega
  unfold tkT
  simp only [List.length_append, List.length_cons, List.length_nil]
  omega

theorem nx_mark {c : Cur} (h0 : c.bad = 0) {k : Int} {s : List UInt8} {r : List Tx} (h : Nx c ((k, s) :: r)) {w : ByteArray} (hw : bs s = w) : isB c k w = true := by rw [← hw]; exact nx_isB h0 h
theorem nx_other {c : Cur} {k : Int} {s : List UInt8} {r : List Tx} (h : Nx c ((k, s) :: r)) {j : Int} {w : ByteArray} (hw : bs s ≠ w) : ¬ isB c j w = true := isB_ne (by rw [h.2.1]; exact hw)
theorem onN_app (a b : List Tx) (c : Cur) : onN (a ++ b).length c = onN b.length (onN a.length c) := by rw [List.length_append, onN_add]
theorem bad_on {c : Cur} (h : c.bad = 0) (n : Nat) : (onN n c).bad = 0 := by rw [onN_bad]; exact h
theorem hdT_tk {x : Tt} (h : x.Ok) {c : Cur} {r : List Tx} (h0 : c.bad = 0) (hn : Nx c (tkH x ++ r)) : hdT c = (onN (tkH x).length c, x.ev) ∧ Nx (onN (tkH x).length c) r := by
  rw [nx_app] at hn
  obtain ⟨hn, hr⟩ := hn
  refine ⟨?_, hr⟩
  unfold tkH at hn ⊢
  by_cases hz : x.ev.size = 0
  · rw [if_pos hz] at hn ⊢
    unfold hdT
    rw [if_pos (nx_mark h0 hn (w := wAuto) rfl), empty_of hz]
    rfl
  · rw [if_neg hz] at hn ⊢
    have hna := okN_name h.ev hz
    have h0' : (on c).bad = 0 := by rw [(on_bad c).1]; exact h0
    have hw : want c 1 wOn = on c := if_pos (nx_mark h0 hn rfl)
    obtain ⟨h1, h2, h3, h4, -⟩ := hn
    obtain ⟨hc, hs⟩ := name_yes h0' h3 h4 hna
    unfold hdT
    rw [if_neg (isB_ne (by rw [h2]; decide)), hw, hc, hs]
    rfl
/-- What may stand behind: which marks. -/
def Behind (c : Cur) (ws : List ByteArray) : Prop := (next c).k = 3 ∧ (next c).t ∈ ws
theorem behind_past {c : Cur} {ws : List ByteArray} (h : Behind c ws) (hw : ∀ w ∈ ws, ExprSpec.look w = none) : Past c := past_mark h.1 rfl (hw _ h.2)
theorem behind_no {c : Cur} {ws : List ByteArray} (h : Behind c ws) {k : Int} {w : ByteArray} (hw : ∀ v ∈ ws, v ≠ w) : ¬ isB c k w = true := isB_ne (hw _ h.2)
theorem behind_tg {s : ByteArray} {c : Cur} (hn : Nx c (tkD s ++ [(3, [59])])) : Behind c [wTo, wEnd] := by
  unfold tkD at hn
  by_cases hz : s.size = 0
  · rw [if_pos hz] at hn
    exact ⟨hn.1, by rw [hn.2.1]; exact .tail _ (.head _)⟩
  · rw [if_neg hz] at hn
    exact ⟨hn.1, by rw [hn.2.1]; exact .head _⟩
theorem behind_acts {ts : List Ta} {s : ByteArray} {c : Cur} (hn : Nx c (tkC ts ++ (tkD s ++ [(3, [59])]))) : Behind c [wDo, wTo, wEnd] := by
  unfold tkC at hn
  by_cases hz : ts = []
  · rw [if_pos hz] at hn
    have := behind_tg hn
    exact ⟨this.1, List.mem_cons_of_mem _ this.2⟩
  · rw [if_neg hz] at hn
    exact ⟨hn.1, by rw [hn.2.1]; exact .head _⟩
theorem guT_tk {g : Option Ex} (h : ∀ e, g = some e → ExprSpec.Good e ∧ chk (flat e) = 0) {c : Cur} {r : List Tx} (h0 : c.bad = 0) (hn : Nx c (tkG g ++ r)) (hr : g = none → ¬ isB c 3 wBra = true) : guT c = (onN (tkG g).length c, gFlat g) ∧ Nx (onN (tkG g).length c) r := by
  rw [nx_app] at hn
  obtain ⟨hn, hrr⟩ := hn
  refine ⟨?_, hrr⟩
  cases g with
  | none =>
    unfold guT
    rw [if_neg (hr rfl)]
    rfl
  | some e =>
    obtain ⟨hg, hk⟩ := h e rfl
    have h0' : (on c).bad = 0 := by rw [(on_bad c).1]; exact h0
    have hb := nx_mark h0 hn (w := wBra) rfl
    have hn2 : Nx (on c) (tk e ++ [(3, [93])]) := hn.2.2
    rw [nx_app] at hn2
    obtain ⟨hn3, hn4⟩ := hn2
    have hR := rdE_tree hg hk h0' hn3 (past_mark hn4.1 hn4.2.1 (by decide))
    have hw : want (onN (tk e).length (on c)) 3 wKet = on (onN (tk e).length (on c)) := if_pos (nx_mark (bad_on h0' _) hn4 rfl)
    unfold guT
    rw [if_pos hb, hR]
    dsimp only
    rw [hw]
    show _ = (onN ((tk e ++ [(3, [93])]).length + 1) c, flat e)
    rw [show onN ((tk e ++ [((3 : Int), [(93 : UInt8)])]).length + 1) c = onN (tk e ++ [((3 : Int), [(93 : UInt8)])]).length (on c) from rfl, onN_app]
    rfl
theorem acT_tk {ts : List Ta} (h : ∀ t ∈ ts, t.Ok) (h8 : ts.length ≤ 8) {s : ByteArray} {c : Cur} (h0 : c.bad = 0) (hn : Nx c (tkC ts ++ (tkD s ++ [(3, [59])]))) : acT c = (onN (tkC ts).length c, ts.map Ta.ac) ∧ Nx (onN (tkC ts).length c) (tkD s ++ [(3, [59])]) := by
  have hn' := hn
  rw [nx_app] at hn
  obtain ⟨hn, hrr⟩ := hn
  refine ⟨?_, hrr⟩
  have hB := behind_tg hrr
  unfold tkC at hn hn' hrr hB ⊢
  by_cases hz : ts = []
  · rw [if_pos hz] at hn' ⊢
    unfold acT
    rw [if_neg (behind_no (behind_tg hn') (by decide)), hz]
    rfl
  · rw [if_neg hz] at hn hB ⊢
    have h0' : (on c).bad = 0 := by rw [(on_bad c).1]; exact h0
    have hB' : Behind (onN (tkL ts).length (on c)) [wTo, wEnd] := hB
    have hR := allR_acts (out := []) hz h (by simpa using h8) h0' hn.2.2 (behind_past hB' (by decide)) (behind_no hB' (by decide))
    have hRA : readA (on c) = (onN (tkL ts).length (on c), ts.map Ta.ac) := by
      unfold readA
      rw [hR, if_pos (bad_on h0' _)]
      rfl
    unfold acT
    rw [if_pos (nx_mark h0 hn (w := wDo) rfl), hRA]
    rfl
theorem tgT_tk {s : ByteArray} (h : okN s = true) {c : Cur} (h0 : c.bad = 0) (hn : Nx c (tkD s ++ [(3, [59])])) : tgT c = (onN (tkD s).length c, s) ∧ Nx (onN (tkD s).length c) [(3, [59])] := by
  have hn' := hn
  rw [nx_app] at hn
  obtain ⟨hn, hrr⟩ := hn
  refine ⟨?_, hrr⟩
  unfold tkD at hn hn' ⊢
  by_cases hz : s.size = 0
  · rw [if_pos hz] at hn' ⊢
    unfold tgT
    rw [if_neg (nx_other hn' (by decide)), empty_of hz]
    rfl
  · rw [if_neg hz] at hn ⊢
    have h0' : (on c).bad = 0 := by rw [(on_bad c).1]; exact h0
    obtain ⟨h1, h2, h3, h4, -⟩ := hn
    obtain ⟨hc, hs⟩ := name_yes h0' h3 h4 (okN_name h hz)
    unfold tgT
    rw [if_pos (isB_yes' (s := wTo) h0 h1 h2), hc, hs]
    rfl
/-- A transition's tokens are read as it. -/
theorem readT_tk {x : Tt} (h : x.Ok) {c : Cur} (h0 : c.bad = 0) (hn : Nx c (tkT x)) : readT c = (onN (tkT x).length c, x.tr) := by
  unfold tkT at hn
  obtain ⟨e1, n1⟩ := hdT_tk h h0 hn
  have b1 := bad_on h0 (tkH x).length
  obtain ⟨e2, n2⟩ := guT_tk h.g b1 n1 (fun hg => by
    rw [hg] at n1
    exact behind_no (behind_acts (c := onN (tkH x).length c) n1) (by decide))
  have b2 := bad_on b1 (tkG x.g).length
  obtain ⟨e3, n3⟩ := acT_tk h.ts h.few b2 n2
  have b3 := bad_on b2 (tkC x.ts).length
  obtain ⟨e4, n4⟩ := tgT_tk h.tg b3 n3
  have b4 := bad_on b3 (tkD x.tg).length
  have e5 : want (onN (tkD x.tg).length (onN (tkC x.ts).length (onN (tkG x.g).length (onN (tkH x).length c)))) 3 wEnd = on (onN (tkD x.tg).length (onN (tkC x.ts).length (onN (tkG x.g).length (onN (tkH x).length c)))) := if_pos (nx_mark b4 n4 rfl)
  have eC : onN (tkT x).length c = on (onN (tkD x.tg).length (onN (tkC x.ts).length (onN (tkG x.g).length (onN (tkH x).length c)))) := by
    unfold tkT
    rw [onN_app, onN_app, onN_app, onN_app]
    rfl
  have eS : seqT c = (onN (tkT x).length c, x.tr) := by
    unfold seqT
    rw [e1]
    dsimp only
    rw [e2]
    dsimp only
    rw [e3]
    dsimp only
    rw [e4]
    dsimp only
    rw [e5, eC]
    rfl
  unfold readT
  rw [eS]
  dsimp only
  rw [if_pos (bad_on h0 _)]
/-- What a transition's text is read as. -/
theorem read_trans {x : Tt} (h : x.Ok) :
    (scanT (txT x).data.toList).2.2 = 0 ∧ (readT (cur0 (tkAll (txT x)))).2 = x.tr ∧ (readT (cur0 (tkAll (txT x)))).1.bad = 0 ∧ (next (readT (cur0 (tkAll (txT x)))).1).k = 0 := by
  have hsz := txT_size h
  have htl := tkT_len h
  obtain ⟨hsl, c, q, hc, hsol⟩ := sl_trans h
  obtain ⟨p, hp⟩ : ∃ p, p = txT x := ⟨_, rfl⟩
  rw [← hp] at hsz hsl hc ⊢
  have hlen : (T p).length = p.size := rfl
  have g0 : gap (T p) 0 = 0 := gap_here (c := c) (r := q) hc hsol
  have hsc := hsl (T p) 0 [] (by simp) stop_nil
  rw [Nat.zero_add] at hsc
  have hgl : (T p).length ≤ gap (T p) (T p).length := (gap_bd (Nat.le_refl _)).1
  have hS : scanT (T p) = (toksAt (T p) 0 (tkT x) ++ [⟨0, gap (T p) (T p).length, 0⟩], 0, 0) := by
    unfold scanT
    rw [if_neg (by omega)]
    unfold scan
    rw [g0, scan_sc (tkT x) 0 _ _ [] hsc hgl (by omega) (by rw [List.length_nil]; omega)]
    rfl
  have hA : tkAll p = (toksAt (T p) 0 (tkT x)).map (tokOf p) ++ [tokOf p ⟨0, gap (T p) (T p).length, 0⟩] := by
    unfold tkAll
    rw [hS, List.map_append]
    rfl
  obtain ⟨hn, hL⟩ := nx_toks (tkT x) 0 _ (cur0 (tkAll p)) _ hsc rfl hA
  have hbad : (onN (tkT x).length (cur0 (tkAll p))).bad = 0 := bad_on rfl _
  have hend : next (onN (tkT x).length (cur0 (tkAll p))) = tokOf p ⟨0, gap (T p) (T p).length, 0⟩ := by
    unfold next
    rw [if_pos hbad, hL]
  have hk0 : (next (onN (tkT x).length (cur0 (tkAll p)))).k = 0 := by rw [hend]; rfl
  rw [readT_tk h rfl hn]
  exact ⟨by rw [show p.data.toList = T p from rfl, hS], rfl, hbad, hk0⟩
end TransSpec
end Go.Proofs.YtobpcpfomdblgaaGreatDoor

namespace Go.Proofs.YtobpcpfomdblgaaGreatDoor
namespace TransSpec
open CurSpec TermSpec EvalSpec NamesSpec ExprSpec ScanSpec ActSpec

def pcH (s : ByteArray) : List ByteArray := if s.size = 0 then [wAuto] else [wOn, s]
def pcG : Option Ex → List ByteArray
  | none => []
  | some e => [⟨#[91]⟩ ++ tx e ++ ⟨#[93]⟩]
def pcA (ts : List Ta) : List ByteArray := if ts = [] then [] else [wDo, putB ts]
def pcT (s : ByteArray) : List ByteArray := if s.size = 0 then [] else [wTo, s]
def pcs (x : Tt) : List ByteArray := ((pcH x.ev ++ pcG x.g) ++ pcA x.ts) ++ pcT x.tg
theorem pcH_nil {s : ByteArray} (h : s.size = 0) : pcH s = [wAuto] := if_pos h
theorem pcH_ev {s : ByteArray} (h : 0 < s.size) : pcH s = [wOn, s] := if_neg (by omega)
theorem pcA_nil {ts : List Ta} (h : ts.length = 0) : pcA ts = [] := if_pos (List.eq_nil_of_length_eq_zero h)
theorem pcA_some {ts : List Ta} (h : 0 < ts.length) : pcA ts = [wDo, putB ts] := if_neg (fun e => by rw [e] at h; simp at h)
theorem pcT_nil {s : ByteArray} (h : s.size = 0) : pcT s = [] := if_pos h
theorem pcT_tg {s : ByteArray} (h : 0 < s.size) : pcT s = [wTo, s] := if_neg (by omega)
theorem pcs_len (x : Tt) : (pcH x.ev).length ≤ 2 ∧ (pcH x.ev ++ pcG x.g).length ≤ 3 ∧ ((pcH x.ev ++ pcG x.g) ++ pcA x.ts).length ≤ 5 ∧ (pcs x).length ≤ 7 := by
  have h1 : (pcH x.ev).length ≤ 2 := by unfold pcH; split <;> simp
  have h2 : (pcG x.g).length ≤ 1 := by cases x.g <;> simp [pcG]
  have h3 : (pcA x.ts).length ≤ 2 := by unfold pcA; split <;> simp
  have h4 : (pcT x.tg).length ≤ 2 := by unfold pcT; split <;> simp
  unfold pcs
  simp only [List.length_append]
  omega
theorem bytes_of {a b : ByteArray} (h : T a = T b) : a = b := by
  obtain ⟨⟨a⟩⟩ := a
  obtain ⟨⟨b⟩⟩ := b
  simp only [T] at h
  rw [h]
theorem pcs_head (x : Tt) : ∃ p r, pcH x.ev = p :: r ∧ T (headB x) = T p ++ Lib.joinTail [32] (r.map T) := by
  unfold pcH headB
  split
  · exact ⟨_, _, rfl, by simp [Lib.joinTail]⟩
  · refine ⟨_, _, rfl, ?_⟩
    rw [T, bytes_app]
    simp only [Lib.joinTail, List.map_cons, List.map_nil, List.flatten_cons, List.flatten_nil]
    simp [T]
theorem tail_app (a b : List ByteArray) : Lib.joinTail [32] ((a ++ b).map T) = Lib.joinTail [32] (a.map T) ++ Lib.joinTail [32] (b.map T) := by simp [Lib.joinTail]
theorem tail_g (g : Option Ex) : Lib.joinTail [32] ((pcG g).map T) = T (guardB g) := by
  cases g with
  | none => rfl
  | some e =>
    unfold pcG guardB
    simp only [T, bytes_app, Lib.joinTail, List.map_cons, List.map_nil, List.flatten_cons, List.flatten_nil]
    simp
theorem tail_a (ts : List Ta) : Lib.joinTail [32] ((pcA ts).map T) = T (actsB ts) := by
  unfold pcA actsB
  split
  · rfl
  · simp only [T, bytes_app, Lib.joinTail, List.map_cons, List.map_nil, List.flatten_cons, List.flatten_nil]
    simp
theorem tail_t (s : ByteArray) : Lib.joinTail [32] ((pcT s).map T) = T (tgB s) := by
  unfold pcT tgB
  split
  · rfl
  · simp only [T, bytes_app, Lib.joinTail, List.map_cons, List.map_nil, List.flatten_cons, List.flatten_nil]
    simp
theorem pcs_join' (x : Tt) : Lib.join ((pcs x).map T) [32] ++ [59] = T (txT x) := by
  obtain ⟨p, r, h, hh⟩ := pcs_head x
  rw [txT_T, hh]
  unfold pcs
  rw [h]
  simp only [List.cons_append, List.map_cons]
  rw [Lib.join_cons, tail_app, tail_app, tail_app, tail_g, tail_a, tail_t]
  simp only [List.append_assoc]
/-- The pieces make the text. -/
theorem pcs_join {x : Tt} (h : x.Ok) : (Lib.join ((pcs x).map (·.data.toList)) [32]).length ≤ 11659 ∧ (⟨(Lib.join ((pcs x).map (·.data.toList)) [32]).toArray⟩ : ByteArray) ++ ⟨#[59]⟩ = txT x := by
  have hj : Lib.join ((pcs x).map (·.data.toList)) [32] ++ [59] = T (txT x) := pcs_join' x
  have hz := txT_size h
  have hl : (T (txT x)).length = (txT x).size := rfl
  refine ⟨?_, bytes_of ?_⟩
  · rw [← hj, List.length_append] at hl
    simp only [List.length_cons, List.length_nil] at hl
    omega
  · rw [← hj, T, bytes_app]
end TransSpec
end Go.Proofs.YtobpcpfomdblgaaGreatDoor

namespace Go.Proofs.YtobpcpfomdblgaaGreatDoor
open Go.RowKit TermSpec EvalSpec ValSpec

end Go.Proofs.YtobpcpfomdblgaaGreatDoor
