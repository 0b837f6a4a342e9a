/- ExprScan, joined. -/
import Derived.Test.YtffdfajlfgeicaaDoorMExprText
import Derived.Test.YtffdfajlfgeicaaDoorMExprParse
namespace Go.Proofs.YtffdfajlfgeicaaDoor
namespace ExprSpec
open CurSpec TermSpec ScanSpec

theorem byte_all {P : UInt8 → Prop} (h : ∀ n : Fin 256, P (UInt8.ofNat n.val)) (c : UInt8) : P c := by
  have := h ⟨c.toNat, c.toNat_lt⟩
  simpa using this
theorem b_letter (c : UInt8) : NamesSpec.letter c = true → clsB c = 1 := byte_all (P := fun c => NamesSpec.letter c = true → clsB c = 1) (by decide +kernel) c
theorem b_later (c : UInt8) : NamesSpec.later c = true → isWord c = true := byte_all (P := fun c => NamesSpec.later c = true → isWord c = true) (by decide +kernel) c
theorem b_dig (c : UInt8) : ValSpec.isDig c = true → clsB c = 2 ∧ isNum c = true := byte_all (P := fun c => ValSpec.isDig c = true → clsB c = 2 ∧ isNum c = true) (by decide +kernel) c
def Stop (r : List UInt8) : Prop := ∀ c, r.head? = some c → c = 32 ∨ c = 40 ∨ c = 41 ∨ c = 44
theorem stop_nil : Stop [] := by intro c h; cases h
theorem stop_32 (r : List UInt8) : Stop (32 :: r) := by intro c h; cases h; exact .inl rfl
theorem stop_40 (r : List UInt8) : Stop (40 :: r) := by intro c h; cases h; exact .inr (.inl rfl)
theorem stop_41 (r : List UInt8) : Stop (41 :: r) := by intro c h; cases h; exact .inr (.inr (.inl rfl))
theorem stop_44 (r : List UInt8) : Stop (44 :: r) := by intro c h; cases h; exact .inr (.inr (.inr rfl))
theorem b_stop {c : UInt8} (h : c = 32 ∨ c = 40 ∨ c = 41 ∨ c = 44) : isWord c = false ∧ isNum c = false ∧ clsB c ≠ 1 ∧ clsB c ≠ 3 := by
  rcases h with rfl | rfl | rfl | rfl <;> decide
theorem run_all {p : UInt8 → Bool} : ∀ {s r : List UInt8}, s.all p = true → (∀ c, r.head? = some c → p c = false) → run p (s ++ r) = s.length
  | [], [], _, _ => rfl
  | [], c :: r, _, h => by rw [List.nil_append, run, if_neg (by rw [h c rfl]; decide)]; rfl
  | a :: s, r, h, hr => by
    rw [List.all_cons, Bool.and_eq_true] at h
    rw [List.cons_append, run, if_pos h.1, run_all h.2 hr]
    rfl
theorem one_word {a : UInt8} {t r : List UInt8} (ha : clsB a = 1) (hw : (a :: t).all isWord = true) (hl : (a :: t).length ≤ 12) (hs : Stop r) : one (a :: t ++ r) = (1, (a :: t).length, 0) := by
  have hr := run_all hw (fun c hc => (b_stop (hs c hc)).1)
  unfold one
  rw [if_pos (show cls (a :: t ++ r) 0 = 1 from ha), hr, if_neg (by omega)]
theorem cls_past (s r : List UInt8) (hs : Stop r) : cls (s ++ r) s.length ≠ 1 ∧ cls (s ++ r) s.length ≠ 3 := by
  unfold cls
  rw [List.getElem?_append_right (Nat.le_refl _), Nat.sub_self]
  cases r with
  | nil => simp
  | cons c r => exact (b_stop (hs c rfl)).2.2
theorem one_num {a : UInt8} {t r : List UInt8} (ha : clsB a = 2) (hw : (a :: t).all isNum = true) (hl : (a :: t).length ≤ 9) (hs : Stop r) : one (a :: t ++ r) = (2, (a :: t).length, 0) := by
  have hr := run_all hw (fun c hc => (b_stop (hs c hc)).2.1)
  have hc := cls_past (a :: t) r hs
  have h2 : cls (a :: t ++ r) 0 = 2 := ha
  unfold one
  rw [if_neg (by omega), if_pos h2, hr, if_neg (by omega), if_neg (by omega)]
theorem one_mark {s r : List UInt8} (hc : cls (s ++ r) 0 = 0) (h0 : 0 < s.length) (hm : markLen (s ++ r) = s.length) : one (s ++ r) = (3, s.length, 0) := by
  unfold one
  rw [if_neg (by omega), if_neg (by omega), hm, if_neg (by omega)]

/-- From a token's place on: these tokens, then that place. -/
def Sc (l : List UInt8) : Nat → List Tx → Nat → Prop
  | i, [], j => i = j
  | i, (k, s) :: r, j => i < l.length ∧ one (l.drop i) = (k, s.length, 0) ∧ (l.drop i).take s.length = s ∧ 0 < s.length ∧ Sc l (gap l (i + s.length)) r j
theorem sc_app {l : List UInt8} : ∀ {a b : List Tx} {i j k : Nat}, Sc l i a j → Sc l j b k → Sc l i (a ++ b) k
  | [], b, i, j, k, h, h' => by cases h; exact h'
  | (_, _) :: a, b, i, j, k, h, h' => ⟨h.1, h.2.1, h.2.2.1, h.2.2.2.1, sc_app h.2.2.2.2 h'⟩
theorem drop_lt {l : List UInt8} {i : Nat} {c : UInt8} {r : List UInt8} (h : l.drop i = c :: r) : i < l.length := by
  have := congrArg List.length h
  rw [List.length_drop, List.length_cons] at this
  omega
theorem drop_past {l : List UInt8} {i : Nat} {s r : List UInt8} (h : l.drop i = s ++ r) : l.drop (i + s.length) = r := by
  rw [← List.drop_drop, h, List.drop_left]
theorem sc_one {l : List UInt8} {i : Nat} {k : Int} {s r : List UInt8} (h : l.drop i = s ++ r) (h0 : 0 < s.length) (ho : one (s ++ r) = (k, s.length, 0)) : Sc l i [(k, s)] (gap l (i + s.length)) := by
  refine ⟨?_, by rw [h]; exact ho, by rw [h, List.take_left], h0, rfl⟩
  match s, h0 with
  | a :: s, _ => exact drop_lt h
/-- A byte that is no blank, begins no remark. -/
abbrev Sol (c : UInt8) : Prop := clsB c ≠ 4 ∧ clsB c ≠ 5 ∧ c ≠ 62
theorem cls_head {l : List UInt8} {i : Nat} {c : UInt8} {r : List UInt8} (h : l.drop i = c :: r) : cls l i = clsB c := by
  have : (l.drop i)[0]? = some c := by rw [h]; rfl
  rw [List.getElem?_drop] at this
  exact cls_some this
theorem gap_here {l : List UInt8} {i : Nat} {c : UInt8} {r : List UInt8} (h : l.drop i = c :: r) (hs : Sol c) : gap l i = i := gap_stop (by rw [cls_head h]; exact hs.1) (by rw [cls_head h]; exact hs.2.1)
theorem gap_one {l : List UInt8} {i : Nat} {c : UInt8} {r : List UInt8} (h : l.drop i = 32 :: c :: r) (hs : Sol c) : gap l i = i + 1 := by
  rw [← gap_blank (l := l) (i := i) (by rw [cls_head h]; rfl)]
  exact gap_here (drop_past (s := [32]) h) hs
theorem bytes_app (a b : ByteArray) : (a ++ b).data.toList = a.data.toList ++ b.data.toList := by simp [ByteArray.data_append]
abbrev T (s : ByteArray) : List UInt8 := s.data.toList
theorem bk_yes {b : Prop} [Decidable b] (h : b) (s : ByteArray) : T (bk b s) = 40 :: (T s ++ [41]) := by
  rw [show bk b s = (⟨#[40]⟩ ++ s) ++ ⟨#[41]⟩ from if_pos h, T, bytes_app, bytes_app]
  rfl
theorem bk_no {b : Prop} [Decidable b] (h : ¬ b) (s : ByteArray) : T (bk b s) = T s := by rw [show bk b s = s from if_neg h]
def Fst (s : List UInt8) : Prop := ∃ c r, s = c :: r ∧ Sol c
theorem fst_bk {b : Prop} [Decidable b] {s : ByteArray} (h : Fst (T s)) : Fst (T (bk b s)) := by
  by_cases hb : b
  · rw [bk_yes hb]; exact ⟨40, _, rfl, by decide⟩
  · rw [bk_no hb]; exact h
theorem fst_app {a b : List UInt8} (h : Fst a) : Fst (a ++ b) := by
  obtain ⟨c, r, rfl, hc⟩ := h
  exact ⟨c, r ++ b, rfl, hc⟩
theorem sol_1 (c : UInt8) : clsB c = 1 ∨ clsB c = 2 → Sol c := byte_all (P := fun c => clsB c = 1 ∨ clsB c = 2 → clsB c ≠ 4 ∧ clsB c ≠ 5 ∧ c ≠ 62) (by decide +kernel) c
theorem name_parts {s : List UInt8} (h : NamesSpec.isName s = true) : ∃ a t, s = a :: t ∧ clsB a = 1 ∧ (a :: t).all isWord = true ∧ (a :: t).length ≤ 12 := by
  unfold NamesSpec.isName at h
  simp only [Bool.and_eq_true, decide_eq_true_eq] at h
  obtain ⟨⟨⟨⟨h1, h2⟩, _⟩, h4⟩, h5⟩ := h
  match s, h1 with
  | a :: t, _ =>
    refine ⟨a, t, rfl, b_letter a (by simpa using h5), ?_, h2⟩
    rw [List.all_eq_true] at h4 ⊢
    exact fun c hc => b_later c (h4 c hc)
theorem text_parts {n : Int} (h : 0 ≤ n ∧ n ≤ 1000000) : ∃ a t, ValSpec.text n = a :: t ∧ clsB a = 2 ∧ (a :: t).all isNum = true ∧ (a :: t).length ≤ 9 := by
  have hl : (ValSpec.text n).length ≤ 9 := by
    unfold ValSpec.text
    rw [if_neg (by omega)]
    have := ValSpec.digs_len 6 n.natAbs (by omega)
    omega
  have ha : (ValSpec.text n).all ValSpec.isDig = true := by
    unfold ValSpec.text
    rw [if_neg (by omega)]
    exact ValSpec.digs_all _
  have hn : ValSpec.text n ≠ [] := by
    unfold ValSpec.text
    rw [if_neg (by omega)]
    exact ValSpec.digs_ne _
  match hs : ValSpec.text n, hn with
  | a :: t, _ =>
    rw [hs] at hl ha
    rw [List.all_eq_true] at ha
    refine ⟨a, t, rfl, (b_dig a (ha a (by simp))).1, ?_, hl⟩
    rw [List.all_eq_true]
    exact fun c hc => (b_dig c (ha c hc)).2
theorem tx_fst : ∀ {e : Ex}, Good e → Fst (T (tx e))
  | .leaf t, h => by
    unfold tx
    rcases leaf_ops h.1 with h1 | h1 | h1 | h1 | h1
    · rw [if_pos h1]
      obtain ⟨a, r, hs, ha, _⟩ := text_parts (may_num h1 h.2).1
      exact ⟨a, r, by rw [← hs, T, list_bs], sol_1 a (.inr ha)⟩
    · rw [if_neg (by omega), if_pos h1]
      obtain ⟨a, r, hs, ha, _⟩ := name_parts (may_name (.inl h1) h.2).1
      exact ⟨a, r, hs, sol_1 a (.inl ha)⟩
    · rw [if_neg (by omega), if_neg (by omega), if_pos h1]
      exact ⟨116, [114, 117, 101], rfl, by decide⟩
    · rw [if_neg (by omega), if_neg (by omega), if_neg (by omega), if_pos h1]
      exact ⟨102, [97, 108, 115, 101], rfl, by decide⟩
    · rw [if_neg (by omega), if_neg (by omega), if_neg (by omega), if_neg (by omega), T, bytes_app, bytes_app]
      exact ⟨105, _, rfl, by decide⟩
  | .un o a, h => by
    unfold tx
    split
    · rw [T, bytes_app]; exact ⟨45, _, rfl, by decide⟩
    · rw [T, bytes_app]; exact ⟨110, _, rfl, by decide⟩
  | .bin o a b, h => by
    have ih := tx_fst h.2.1
    unfold tx
    split
    · simp only [T, bytes_app]; exact ⟨109, _, rfl, by decide⟩
    split
    · simp only [T, bytes_app]; exact ⟨109, _, rfl, by decide⟩
    · simp only [T, bytes_app]
      exact fst_app (fst_app (fst_app (fst_app (fst_bk ih))))
/-- An expression's text stands at a place: its tokens, and how far they reach. -/
def Scs (s : ByteArray) (ts : List Tx) : Prop := ∀ l i r, l.drop i = T s ++ r → Stop r → Sc l i ts (gap l (i + (T s).length))
theorem one_open (r : List UInt8) : one ([40] ++ r) = (3, [(40 : UInt8)].length, 0) := one_mark rfl (by decide) (by simp [markLen, marks, List.isPrefixOf])
theorem one_close (r : List UInt8) : one ([41] ++ r) = (3, [(41 : UInt8)].length, 0) := one_mark rfl (by decide) (by simp [markLen, marks, List.isPrefixOf])
theorem one_comma (r : List UInt8) : one ([44] ++ r) = (3, [(44 : UInt8)].length, 0) := one_mark rfl (by decide) (by simp [markLen, marks, List.isPrefixOf])
theorem one_neg {c : UInt8} (r : List UInt8) (h : c ≠ 62) : one ([45] ++ c :: r) = (3, [(45 : UInt8)].length, 0) := one_mark rfl (by decide) (by
  have : (62 == c) = false := by simpa using fun e : 62 = c => h e.symm
  simp [markLen, marks, List.isPrefixOf, this])
theorem scs_bk {b : Prop} [Decidable b] {s : ByteArray} {ts : List Tx} (hf : Fst (T s)) (h : Scs s ts) : Scs (bk b s) (twr b ts) := by
  intro l i r hd hr
  by_cases hb : b
  · rw [bk_yes hb] at hd ⊢
    rw [show twr b ts = (3, [40]) :: (ts ++ [(3, [41])]) from if_pos hb]
    obtain ⟨c, q, hc, hsol⟩ := hf
    have h0 : l.drop i = [40] ++ (T s ++ ([41] ++ r)) := by rw [hd]; simp
    have h1 : l.drop (i + 1) = T s ++ ([41] ++ r) := drop_past (s := [40]) h0
    have g1 : gap l (i + 1) = i + 1 := gap_here (c := c) (r := q ++ ([41] ++ r)) (by rw [h1, hc]; rfl) hsol
    have s1 := sc_one h0 (by decide) (one_open _)
    rw [show i + [(40 : UInt8)].length = i + 1 from rfl, g1] at s1
    have s2 := h l (i + 1) ([41] ++ r) h1 (stop_41 r)
    have h2 : l.drop (i + 1 + (T s).length) = [41] ++ r := drop_past h1
    rw [gap_here (c := 41) (r := r) h2 (by decide)] at s2
    have s3 := sc_one h2 (by decide) (one_close _)
    have := sc_app s1 (sc_app s2 s3)
    rwa [show i + 1 + (T s).length + [(41 : UInt8)].length = i + (40 :: (T s ++ [41])).length by simp; omega] at this
  · rw [bk_no hb] at hd ⊢
    rw [show twr b ts = ts from if_neg hb]
    exact h l i r hd hr
theorem sc_word {l : List UInt8} {i : Nat} {s r : List UInt8} (h : l.drop i = s ++ r) (hs : ∃ a t, s = a :: t ∧ clsB a = 1 ∧ (a :: t).all isWord = true ∧ (a :: t).length ≤ 12) (hr : Stop r) : Sc l i [(1, s)] (gap l (i + s.length)) := by
  obtain ⟨a, t, rfl, ha, hw, hl⟩ := hs
  exact sc_one h (by simp) (one_word ha hw hl hr)
theorem scs_leaf {t : Tm} (h : Good (.leaf t)) : Scs (tx (.leaf t)) (tk (.leaf t)) := by
  intro l i r hd hr
  unfold tx at hd ⊢
  unfold tk
  rcases leaf_ops h.1 with h1 | h1 | h1 | h1 | h1
  · rw [if_pos h1] at hd ⊢
    rw [if_pos h1]
    obtain ⟨a, q, hs, ha, hn, hl⟩ := text_parts (may_num h1 h.2).1
    rw [T, list_bs] at hd ⊢
    rw [hs] at hd ⊢
    exact sc_one hd (by simp) (one_num ha hn hl hr)
  · rw [if_neg (by omega), if_pos h1] at hd ⊢
    rw [if_neg (by omega), if_pos h1]
    exact sc_word hd (name_parts (may_name (.inl h1) h.2).1) hr
  · rw [if_neg (by omega), if_neg (by omega), if_pos h1] at hd ⊢
    rw [if_neg (by omega), if_neg (by omega), if_pos h1]
    exact sc_word hd ⟨116, [114, 117, 101], rfl, by decide, by decide, by decide⟩ hr
  · rw [if_neg (by omega), if_neg (by omega), if_neg (by omega), if_pos h1] at hd ⊢
    rw [if_neg (by omega), if_neg (by omega), if_neg (by omega), if_pos h1]
    exact sc_word hd ⟨102, [97, 108, 115, 101], rfl, by decide, by decide, by decide⟩ hr
  · rw [if_neg (by omega), if_neg (by omega), if_neg (by omega), if_neg (by omega)] at hd ⊢
    rw [if_neg (by omega), if_neg (by omega), if_neg (by omega), if_neg (by omega)]
    have hn := name_parts (may_name (.inr h1) h.2).1
    rw [T, bytes_app, bytes_app] at hd ⊢
    generalize t.s.data.toList = s at hd hn ⊢
    obtain ⟨a, q, hs, ha, hw, hl⟩ := hn
    have h0 : l.drop i = [105, 110] ++ ([40] ++ (s ++ ([41] ++ r))) := by
      rw [hd]; simp
    have hh1 : l.drop (i + 2) = [40] ++ (s ++ ([41] ++ r)) := drop_past (s := [105, 110]) h0
    have hh2 : l.drop (i + 2 + 1) = s ++ ([41] ++ r) := drop_past (s := [40]) hh1
    have hh3 : l.drop (i + 2 + 1 + s.length) = [41] ++ r := drop_past hh2
    have s0 := sc_word h0 ⟨105, [110], rfl, by decide, by decide, by decide⟩ (stop_40 _)
    rw [show i + [(105 : UInt8), 110].length = i + 2 from rfl, gap_here (c := 40) hh1 (by decide)] at s0
    have s1 := sc_one hh1 (by decide) (one_open _)
    rw [show i + 2 + [(40 : UInt8)].length = i + 2 + 1 from rfl, gap_here (c := a) (r := q ++ ([41] ++ r)) (by rw [hh2, hs]; rfl) (sol_1 a (.inl ha))] at s1
    have s2 := sc_word hh2 ⟨a, q, hs, ha, hw, hl⟩ (stop_41 r)
    rw [gap_here (c := 41) hh3 (by decide)] at s2
    have s3 := sc_one hh3 (by decide) (one_close _)
    have := sc_app s0 (sc_app s1 (sc_app s2 s3))
    rwa [show i + 2 + 1 + s.length + [(41 : UInt8)].length = i + (([105, 110, 40] : List UInt8) ++ s ++ [41]).length by simp; omega] at this
theorem scs_un {o : Int} {a : Ex} (h : Good (.un o a)) (ih : Scs (tx a) (tk a)) : Scs (tx (.un o a)) (tk (.un o a)) := by
  intro l i r hd hr
  have hf := tx_fst h.2
  have e1 : tx (.un o a) = if o = 3 then ⟨#[45]⟩ ++ bk (lev a < 7) (tx a) else ⟨#[110, 111, 116, 32]⟩ ++ bk (lev a < 3) (tx a) := rfl
  have e2 : tk (.un o a) = if o = 3 then (3, [45]) :: twr (lev a < 7) (tk a) else (1, lNot) :: twr (lev a < 3) (tk a) := rfl
  rw [e1] at hd ⊢
  rw [e2]
  by_cases ho : o = 3
  · rw [if_pos ho] at hd ⊢
    rw [if_pos ho]
    have hb := scs_bk (b := lev a < 7) hf ih
    obtain ⟨c, q, hc, hsol⟩ := fst_bk (b := lev a < 7) hf
    rw [T, bytes_app] at hd ⊢
    have h0 : l.drop i = [45] ++ (T (bk (lev a < 7) (tx a)) ++ r) := by rw [hd]; simp
    have h1 : l.drop (i + 1) = T (bk (lev a < 7) (tx a)) ++ r := drop_past (s := [45]) h0
    have s0 := sc_one (k := 3) h0 (by decide) (by rw [hc]; exact one_neg _ hsol.2.2)
    rw [show i + [(45 : UInt8)].length = i + 1 from rfl, gap_here (c := c) (r := q ++ r) (by rw [h1, hc]; rfl) hsol] at s0
    have := sc_app s0 (hb l (i + 1) r h1 hr)
    rwa [show i + 1 + (T (bk (lev a < 7) (tx a))).length = i + (([45] : List UInt8) ++ T (bk (lev a < 7) (tx a))).length by simp; omega] at this
  · rw [if_neg ho] at hd ⊢
    rw [if_neg ho]
    have hb := scs_bk (b := lev a < 3) hf ih
    obtain ⟨c, q, hc, hsol⟩ := fst_bk (b := lev a < 3) hf
    rw [T, bytes_app] at hd ⊢
    have h0 : l.drop i = lNot ++ ([32] ++ (T (bk (lev a < 3) (tx a)) ++ r)) := by rw [hd]; simp [lNot]
    have h1 : l.drop (i + 3) = [32] ++ (T (bk (lev a < 3) (tx a)) ++ r) := drop_past (s := lNot) h0
    have h2 : l.drop (i + 3 + 1) = T (bk (lev a < 3) (tx a)) ++ r := drop_past (s := [32]) h1
    have s0 := sc_word h0 ⟨110, [111, 116], rfl, by decide, by decide, by decide⟩ (stop_32 _)
    rw [show i + lNot.length = i + 3 from rfl, gap_one (c := c) (r := q ++ r) (by rw [h1, hc]; rfl) hsol] at s0
    have := sc_app s0 (hb l (i + 3 + 1) r h2 hr)
    rwa [show i + 3 + 1 + (T (bk (lev a < 3) (tx a))).length = i + (([110, 111, 116, 32] : List UInt8) ++ T (bk (lev a < 3) (tx a))).length by simp; omega] at this
theorem scs_two {w : List UInt8} {a b : Ex} (ha : Good a) (hb : Good b) (iha : Scs (tx a) (tk a)) (ihb : Scs (tx b) (tk b)) (hw : ∃ x t, w = x :: t ∧ clsB x = 1 ∧ (x :: t).all isWord = true ∧ (x :: t).length ≤ 12) {l : List UInt8} {i : Nat} {r : List UInt8}
    (hd : l.drop i = w ++ ([40] ++ (T (tx a) ++ ([44] ++ ([32] ++ (T (tx b) ++ ([41] ++ r))))))) :
    Sc l i ((1, w) :: (3, [40]) :: (tk a ++ (3, [44]) :: (tk b ++ [(3, [41])]))) (gap l (i + w.length + 1 + (T (tx a)).length + 1 + 1 + (T (tx b)).length + 1)) := by
  obtain ⟨c, q, hc, hsol⟩ := tx_fst ha
  obtain ⟨d, p, hp, hsol'⟩ := tx_fst hb
  have h1 := drop_past hd
  have h2 := drop_past h1
  have h3 := drop_past h2
  have h4 := drop_past h3
  have h5 := drop_past h4
  have h6 := drop_past h5
  have s0 := sc_word hd hw (stop_40 _)
  rw [gap_here (c := 40) h1 (by decide)] at s0
  have s1 := sc_one h1 (by decide) (one_open _)
  rw [gap_here (c := c) (r := q ++ ([44] ++ ([32] ++ (T (tx b) ++ ([41] ++ r))))) (by rw [h2, hc]; rfl) hsol] at s1
  have s2 := iha _ _ _ h2 (stop_44 _)
  rw [gap_here (c := 44) h3 (by decide)] at s2
  have s3 := sc_one h3 (by decide) (one_comma _)
  rw [gap_one (c := d) (r := p ++ ([41] ++ r)) (by rw [h4, hp]; rfl) hsol'] at s3
  have s4 := ihb _ _ _ h5 (stop_41 _)
  rw [gap_here (c := 41) h6 (by decide)] at s4
  have s5 := sc_one h6 (by decide) (one_close _)
  exact sc_app s0 (sc_app s1 (sc_app s2 (sc_app s3 (sc_app s4 s5))))
theorem sg_one : ∀ s ∈ sgs, ∀ r, one (s.t.data.toList ++ 32 :: r) = ((if s.lev ≤ 2 then 1 else 3), s.t.data.toList.length, 0) := by
  intro s hs r
  unfold sgs at hs
  simp only [List.mem_cons, List.not_mem_nil, or_false] at hs
  rcases hs with rfl | rfl | rfl | rfl | rfl | rfl | rfl | rfl | rfl | rfl | rfl
  · exact one_word (a := 111) (t := [114]) rfl (by decide) (by decide) (stop_32 r)
  · exact one_word (a := 97) (t := [110, 100]) rfl (by decide) (by decide) (stop_32 r)
  all_goals exact one_mark rfl (by decide) (by simp [markLen, marks, List.isPrefixOf])
theorem gap_one' {l : List UInt8} {i : Nat} {c : UInt8} {r : List UInt8} (h : l.drop i = 32 :: c :: r) (h4 : clsB c ≠ 4) (h5 : clsB c ≠ 5) : gap l i = i + 1 := by
  rw [← gap_blank (l := l) (i := i) (by rw [cls_head h]; rfl)]
  have h1 : l.drop (i + 1) = c :: r := drop_past (s := [32]) h
  exact gap_stop (by rw [cls_head h1]; exact h4) (by rw [cls_head h1]; exact h5)
theorem sg_fst : ∀ s ∈ sgs, ∃ c r, s.t.data.toList = c :: r ∧ clsB c ≠ 4 ∧ clsB c ≠ 5 := by
  intro s hs
  unfold sgs at hs
  simp only [List.mem_cons, List.not_mem_nil, or_false] at hs
  rcases hs with rfl | rfl | rfl | rfl | rfl | rfl | rfl | rfl | rfl | rfl | rfl
  all_goals exact ⟨_, _, rfl, by decide, by decide⟩
theorem scs_bin {o : Int} {a b : Ex} (h : Good (.bin o a b)) (iha : Scs (tx a) (tk a)) (ihb : Scs (tx b) (tk b)) : Scs (tx (.bin o a b)) (tk (.bin o a b)) := by
  intro l i r hd hr
  have e1 : tx (.bin o a b) = if o = 7 then (((⟨#[109, 105, 110, 40]⟩ ++ tx a) ++ ⟨#[44, 32]⟩) ++ tx b) ++ ⟨#[41]⟩
    else if o = 8 then (((⟨#[109, 97, 120, 40]⟩ ++ tx a) ++ ⟨#[44, 32]⟩) ++ tx b) ++ ⟨#[41]⟩
    else (((bk (lev a < (sgOf o).left) (tx a) ++ ⟨#[32]⟩) ++ (sgOf o).t) ++ ⟨#[32]⟩) ++ bk (lev b < (sgOf o).right) (tx b) := rfl
  have e2 : tk (.bin o a b) = if o = 7 then (1, lMin) :: (3, [40]) :: (tk a ++ (3, [44]) :: (tk b ++ [(3, [41])]))
    else if o = 8 then (1, lMax) :: (3, [40]) :: (tk a ++ (3, [44]) :: (tk b ++ [(3, [41])]))
    else twr (lev a < (sgOf o).left) (tk a) ++ ((if (sgOf o).lev ≤ 2 then 1 else 3, (sgOf o).t.data.toList) :: twr (lev b < (sgOf o).right) (tk b)) := rfl
  rw [e1] at hd ⊢
  rw [e2]
  by_cases h7 : o = 7
  · rw [if_pos h7] at hd ⊢
    rw [if_pos h7]
    simp only [T, bytes_app] at hd ⊢
    have := scs_two (w := lMin) h.2.1 h.2.2 iha ihb ⟨109, [105, 110], rfl, by decide, by decide, by decide⟩ (l := l) (i := i) (r := r) (by rw [hd]; simp [lMin])
    rwa [show i + lMin.length + 1 + (T (tx a)).length + 1 + 1 + (T (tx b)).length + 1 = i + (([109, 105, 110, 40] : List UInt8) ++ T (tx a) ++ [44, 32] ++ T (tx b) ++ [41]).length by simp [lMin]; omega] at this
  by_cases h8 : o = 8
  · rw [if_neg h7, if_pos h8] at hd ⊢
    rw [if_neg h7, if_pos h8]
    simp only [T, bytes_app] at hd ⊢
    have := scs_two (w := lMax) h.2.1 h.2.2 iha ihb ⟨109, [97, 120], rfl, by decide, by decide, by decide⟩ (l := l) (i := i) (r := r) (by rw [hd]; simp [lMax])
    rwa [show i + lMax.length + 1 + (T (tx a)).length + 1 + 1 + (T (tx b)).length + 1 = i + (([109, 97, 120, 40] : List UInt8) ++ T (tx a) ++ [44, 32] ++ T (tx b) ++ [41]).length by simp [lMax]; omega] at this
  · rw [if_neg h7, if_neg h8] at hd ⊢
    rw [if_neg h7, if_neg h8]
    have hm := (sgOf_mem h.1 (by omega)).1
    obtain ⟨s, hs⟩ : ∃ s, s = sgOf o := ⟨_, rfl⟩
    rw [← hs] at hd hm ⊢
    have ba := scs_bk (b := lev a < s.left) (tx_fst h.2.1) iha
    have bb := scs_bk (b := lev b < s.right) (tx_fst h.2.2) ihb
    obtain ⟨d, p, hp, hsol⟩ := fst_bk (b := lev b < s.right) (tx_fst h.2.2)
    obtain ⟨c, q, hc, h4', h5'⟩ := sg_fst s hm
    have ho := sg_one s hm
    simp only [T, bytes_app] at hd ⊢
    have h0 : l.drop i = T (bk (lev a < s.left) (tx a)) ++ ([32] ++ (T s.t ++ ([32] ++ (T (bk (lev b < s.right) (tx b)) ++ r)))) := by rw [hd]; simp
    have h1 := drop_past h0
    have h2 := drop_past h1
    have h3 := drop_past h2
    have h4 := drop_past h3
    have s0 := ba _ _ _ h0 (stop_32 _)
    rw [gap_one' (c := c) (r := q ++ ([32] ++ (T (bk (lev b < s.right) (tx b)) ++ r))) (by rw [h1, show T s.t = c :: q from hc]; rfl) h4' h5'] at s0
    have s1 := sc_one h2 (by rw [show T s.t = c :: q from hc]; simp) (ho _)
    rw [gap_one (c := d) (r := p ++ r) (by rw [h3, hp]; rfl) hsol] at s1
    have s2 := bb _ _ _ h4 hr
    have := sc_app s0 (sc_app s1 s2)
    rwa [show i + (T (bk (lev a < s.left) (tx a))).length + [(32 : UInt8)].length + (T s.t).length + [(32 : UInt8)].length + (T (bk (lev b < s.right) (tx b))).length = i + (T (bk (lev a < s.left) (tx a)) ++ [32] ++ T s.t ++ [32] ++ T (bk (lev b < s.right) (tx b))).length by simp; omega] at this
theorem scs_all : ∀ e : Ex, Good e → Scs (tx e) (tk e)
  | .leaf _, h => scs_leaf h
  | .un _ a, h => scs_un h (scs_all a h.2)
  | .bin _ a b, h => scs_bin h (scs_all a h.2.1) (scs_all b h.2.2)
/-- The tokens that begin at a place. -/
def toksAt (l : List UInt8) : Nat → List Tx → List Tok
  | _, [] => []
  | i, (k, s) :: r => ⟨k, i, s.length⟩ :: toksAt l (gap l (i + s.length)) r
theorem toksAt_len (l : List UInt8) : ∀ (ts : List Tx) (i : Nat), (toksAt l i ts).length = ts.length
  | [], _ => rfl
  | (_, s) :: r, i => by rw [toksAt, List.length_cons, toksAt_len l r, List.length_cons]
theorem scan_sc {l : List UInt8} : ∀ (ts : List Tx) (i j f : Nat) (acc : List Tok), Sc l i ts j → l.length ≤ j → l.length ≤ i + f → acc.length + ts.length ≤ 4000 → scanGo l f i acc = (acc ++ toksAt l i ts ++ [⟨0, j, 0⟩], 0, 0)
  | [], i, j, f, acc, h, hj, _, _ => by
    cases h
    cases f with
    | zero => simp [scanGo, toksAt]
    | succ f => rw [scanGo, if_pos hj]; simp [toksAt]
  | (k, s) :: r, i, j, f, acc, ⟨h1, h2, h3, h4, h5⟩, hj, hf, ha => by
    cases f with
    | zero => omega
    | succ f =>
      rw [List.length_cons] at ha
      have hle : i + s.length ≤ l.length := by
        have := congrArg List.length h3
        rw [List.length_take, List.length_drop] at this
        omega
      have hg := (gap_bd hle).1
      rw [scanGo, if_neg (by omega), h2]
      dsimp only
      rw [if_neg (by simp), if_neg (by omega), scan_sc r _ j f _ h5 hj (by omega) (by rw [List.length_append, List.length_singleton]; omega)]
      simp [toksAt]
theorem nx_toks {s : ByteArray} : ∀ (ts : List Tx) (i j : Nat) (c : Cur) (tl : List Tk), Sc (T s) i ts j → c.bad = 0 → c.L = (toksAt (T s) i ts).map (tokOf s) ++ tl → Nx c ts ∧ (onN ts.length c).L = tl
  | [], i, j, c, tl, _, _, hc => ⟨trivial, hc⟩
  | (k, x) :: r, i, j, c, tl, ⟨h1, h2, h3, h4, h5⟩, hb, hc => by
    rw [toksAt, List.map_cons, List.cons_append] at hc
    have hon : on c = ⟨(toksAt (T s) (gap (T s) (i + x.length)) r).map (tokOf s) ++ tl, (tokOf s ⟨k, i, x.length⟩).l, (tokOf s ⟨k, i, x.length⟩).c, c.a1, c.a2, c.bad⟩ := by unfold on; rw [hc]
    have hnx : next c = tokOf s ⟨k, i, x.length⟩ := by unfold next; rw [if_pos hb, hc]
    have ih := nx_toks r _ j (on c) tl h5 (by rw [hon]; exact hb) (by rw [hon])
    refine ⟨⟨by rw [hnx]; rfl, ?_, ih.1⟩, ih.2⟩
    rw [hnx]
    show s.extract i (i + x.length) = bs x
    apply ByteArray.ext
    apply Array.toList_inj.mp
    rw [ByteArray.data_extract, Array.toList_extract, List.extract_eq_take_drop, show i + x.length - i = x.length by omega]
    exact h3
theorem tk_len : ∀ {e : Ex}, Good e → (tk e).length ≤ 6 * (flat e).length
  | .leaf t, h => by
    show _ ≤ 6
    unfold tk
    repeat' split
    all_goals simp
  | .un o a, h => by
    have ih := tk_len h.2
    show _ ≤ 6 * ((flat a).length + 1)
    unfold tk twr
    repeat' split
    all_goals simp only [List.length_cons, List.length_append, List.length_nil]; omega
  | .bin o a b, h => by
    have iha := tk_len h.2.1
    have ihb := tk_len h.2.2
    show _ ≤ 6 * ((flat a ++ flat b).length + 1)
    rw [List.length_append]
    unfold tk twr
    repeat' split
    all_goals simp only [List.length_cons, List.length_append, List.length_nil]; omega
/-- What an expression's text is parsed as. -/
theorem parse_tx {e : Ex} (hg : Good e) (hk : chk (flat e) = 0) : parseP (tx e) = (flat e, 0) := by
  have h40 : (flat e).length ≤ 40 := (wholeB_iff.1 (chk_ok hk).1).1
  have hsz := tx_size hg
  have htl := tk_len hg
  have hlen : (T (tx e)).length = (tx e).size := rfl
  obtain ⟨c, q, hc, hsol⟩ := tx_fst hg
  have g0 : gap (T (tx e)) 0 = 0 := gap_here (c := c) (r := q) hc hsol
  have hsc := scs_all e hg (T (tx e)) 0 [] (by simp) stop_nil
  rw [Nat.zero_add] at hsc
  have hgl : (T (tx e)).length ≤ gap (T (tx e)) (T (tx e)).length := (gap_bd (Nat.le_refl _)).1
  have hS : scanT (T (tx e)) = (toksAt (T (tx e)) 0 (tk e) ++ [⟨0, gap (T (tx e)) (T (tx e)).length, 0⟩], 0, 0) := by
    unfold scanT
    rw [if_neg (by omega)]
    unfold scan
    rw [g0, scan_sc (tk e) 0 _ _ [] hsc hgl (by omega) (by rw [List.length_nil]; omega)]
    rfl
  have hA : tkAll (tx e) = (toksAt (T (tx e)) 0 (tk e)).map (tokOf (tx e)) ++ [tokOf (tx e) ⟨0, gap (T (tx e)) (T (tx e)).length, 0⟩] := by
    unfold tkAll
    rw [hS, List.map_append]
    rfl
  obtain ⟨hn, hL⟩ := nx_toks (tk e) 0 _ (cur0 (tkAll (tx e))) _ hsc rfl hA
  have hbad : (onN (tk e).length (cur0 (tkAll (tx e)))).bad = 0 := by rw [onN_bad]; rfl
  have hend : next (onN (tk e).length (cur0 (tkAll (tx e)))) = tokOf (tx e) ⟨0, gap (T (tx e)) (T (tx e)).length, 0⟩ := by
    unfold next
    rw [if_pos hbad, hL]
  have hk0 : (next (onN (tk e).length (cur0 (tkAll (tx e))))).k = 0 := by rw [hend]; rfl
  have hq : Qu (lev e) (onN (tk e).length (cur0 (tkAll (tx e)))) := fun s hs => by rw [end_sign hk0] at hs; cases hs
  have hfit := fit_all (tkAll (tx e))
  have hR : S ((tkAll (tx e)).length + 1) (cur0 (tkAll (tx e))) 1 = (onN (tk e).length (cur0 (tkAll (tx e))), flat e) := by
    rw [reads_all e hg (cur0 (tkAll (tx e))) _ 1 rfl hn hq (by decide) (lev_pos hg).1 (by decide) hfit]
    exact C_stop _ _ (end_sign hk0 _ _)
  have hP : readP ((tkAll (tx e)).length + 1) (cur0 (tkAll (tx e))) = (onN (tk e).length (cur0 (tkAll (tx e))), flat e) := by
    unfold readP
    rw [hR]
    dsimp only
    rw [if_pos hbad, hk, fail_zero, if_pos rfl]
  have hw : isB (onN (tk e).length (cur0 (tkAll (tx e)))) 0 ⟨#[]⟩ = true := by
    refine isB_yes' hbad hk0 ?_
    rw [hend]
    show (tx e).extract _ (_ + 0) = _
    apply ByteArray.ext
    apply Array.toList_inj.mp
    rw [ByteArray.data_extract, Array.toList_extract, List.extract_eq_take_drop]
    simp
  unfold parseP
  rw [show (scanT (tx e).data.toList).2.2 = 0 by rw [show (tx e).data.toList = T (tx e) from rfl, hS], if_neg (by simp), hP]
  unfold endP
  have hwb : (want (onN (tk e).length (cur0 (tkAll (tx e)))) 0 ⟨#[]⟩).bad = 0 := by
    unfold want
    rw [if_pos hw, (on_bad _).1, hbad]
  dsimp only
  rw [if_neg (by rw [hwb]; simp)]
end ExprSpec
end Go.Proofs.YtffdfajlfgeicaaDoor
