/- TransRefCheck, EvalOps2, EvalNone, EvalReckon, EvalCheck, EvalLight, ActLight, joined. -/
import Derived.Test.YtobpcpfomdblgaaGreatDoorMTransPuts11
import Derived.Test.YtobpcpfomdblgaaGreatDoorMTransPuts16
import Derived.Test.YtobpcpfomdblgaaGreatDoorMTransPuts10
import Derived.Test.YtobpcpfomdblgaaGreatDoorMTransPuts02
import Derived.Test.YtobpcpfomdblgaaGreatDoorMTransPuts04
import Derived.BigQuiet
import Derived.Deep.QuietTactic
import Derived.Test.YtobpcpfomdblgaaGreatDoorMTransPuts07
import Derived.Lib.QuietBelow
namespace Go.Proofs.YtobpcpfomdblgaaGreatDoor
open Go.RowKit TermSpec EvalSpec ActSpec NamesSpec ExprSpec TransSpec
set_option maxRecDepth 100000

set_option maxHeartbeats 4000000 in
theorem trc_bad (t : Tr) (gA : Option Addr) (gn gc : Nat) (aA : Option Addr) (an ac : Nat) (w : World) (hs : SmallT t) (h : TrIn w gA gn gc aA an ac t) (ev0 : 0 < t.ev.size) (ev1 : isName t.ev.data.toList = false) :
    Calls Tryz.prog 7 #[.agg #[.string t.ev, .slice gA gn gc, .slice aA an ac, .string t.tg]] w (RetI w (chkT t)) := by
  have hgn := h.len.1
  have hcap := h.cap.1
  have H1 := Lib.hid (fun W => ris_any t.ev W hs.ev)
  have H2 := Lib.hid (fun W => ris_any t.tg W hs.tg)
  have H3 := Lib.hid (fun W (hW : Below w.heap.size w W) => rcheck_any gA gn gc t.g hgn (by have := hs.glen; omega) hs.g W (h.g.keep hW))
  have H4 := Lib.hid (fun W (hW : Below w.heap.size w W) => rcheck_acts aA an ac t.acts hs.acts hs.alen W (h.a.keep hW))
  have HN := Lib.hid (fun h' => chkT_name (t := t) h')
  have HO := Lib.hid (fun a b c => chkT_nog (t := t) a b c)
  have HX := Lib.hid (fun a b c d => chkT_bad (t := t) a b c d)
  have HG := Lib.hid (fun a b c => chkT_good (t := t) a b c)
  have HL := Lib.hid hgn
  have hn62 : (gn : Int) ≤ 4398046511104 := by have := hs.glen; omega

  have he_badev : okN t.ev = false := by rw [okN_pos ev0]; exact ev1
  have gev : decide (0 < t.ev.size) = true := decide_eq_true (by omega)
  rw [ev1] at H1
  have HR := Lib.hid (HN.out (.inl he_badev))
  obtain ⟨r, hr⟩ : ∃ r, r = chkT t := ⟨_, rfl⟩
  rw [← hr] at HR ⊢
  clear HN HO HX HG HL hr hs h hgn
  clear he_badev ev0 ev1
  obtain ⟨ev, g, acts, tg⟩ := t
  simp only at *
  go_enter Tryz.func7, Tryz.ntmps7
  go_wp2_with (go_at_call 21; (with_reducible refine (H1.out _).mono ?_))
  rintro e w2 ⟨rfl, hb⟩
  have HB2 := Lib.hid (And.intro (KitC.one_block hb).1 (KitC.one_block hb).2.1)
  obtain ⟨c0, c1, c2, c3⟩ := cells_4 HB2.out.1
  clear hb
  go_wp2_with fail
  go_ret
  exact ⟨ret_int HR.out.symm, HB2.out.2⟩
set_option maxHeartbeats 4000000 in
theorem trc_nilbad (t : Tr) (gA : Option Addr) (gn gc : Nat) (aA : Option Addr) (an ac : Nat) (w : World) (hs : SmallT t) (h : TrIn w gA gn gc aA an ac t) (ev0 : t.ev.size = 0) (tg0 : 0 < t.tg.size) (tg1 : isName t.tg.data.toList = false) :
    Calls Tryz.prog 7 #[.agg #[.string t.ev, .slice gA gn gc, .slice aA an ac, .string t.tg]] w (RetI w (chkT t)) := by
  have hgn := h.len.1
  have hcap := h.cap.1
  have H1 := Lib.hid (fun W => ris_any t.ev W hs.ev)
  have H2 := Lib.hid (fun W => ris_any t.tg W hs.tg)
  have H3 := Lib.hid (fun W (hW : Below w.heap.size w W) => rcheck_any gA gn gc t.g hgn (by have := hs.glen; omega) hs.g W (h.g.keep hW))
  have H4 := Lib.hid (fun W (hW : Below w.heap.size w W) => rcheck_acts aA an ac t.acts hs.acts hs.alen W (h.a.keep hW))
  have HN := Lib.hid (fun h' => chkT_name (t := t) h')
  have HO := Lib.hid (fun a b c => chkT_nog (t := t) a b c)
  have HX := Lib.hid (fun a b c d => chkT_bad (t := t) a b c d)
  have HG := Lib.hid (fun a b c => chkT_good (t := t) a b c)
  have HL := Lib.hid hgn
  have hn62 : (gn : Int) ≤ 4398046511104 := by have := hs.glen; omega

  have he_nilev := okN_nil ev0
  have gev : decide (0 < t.ev.size) = false := decide_eq_false (by omega)
  have he_badtg : okN t.tg = false := by rw [okN_pos tg0]; exact tg1
  have gtg : decide (0 < t.tg.size) = true := decide_eq_true (by omega)
  rw [tg1] at H2
  have HR := Lib.hid (HN.out (.inr he_badtg))
  obtain ⟨r, hr⟩ : ∃ r, r = chkT t := ⟨_, rfl⟩
  rw [← hr] at HR ⊢
  clear HN HO HX HG HL hr hs h hgn
  clear he_nilev ev0
  clear he_badtg tg0 tg1
  obtain ⟨ev, g, acts, tg⟩ := t
  simp only at *
  go_enter Tryz.func7, Tryz.ntmps7
  go_wp2_with (go_at_call 21; (with_reducible refine (H2.out _).mono ?_))
  rintro e w2 ⟨rfl, hb⟩
  have HB2 := Lib.hid (And.intro (KitC.one_block hb).1 (KitC.one_block hb).2.1)
  obtain ⟨c0, c1, c2, c3⟩ := cells_4 HB2.out.1
  clear hb
  go_wp2_with fail
  go_ret
  exact ⟨ret_int HR.out.symm, HB2.out.2⟩
set_option maxHeartbeats 4000000 in
theorem trc_nilnilnone (t : Tr) (gA : Option Addr) (gn gc : Nat) (aA : Option Addr) (an ac : Nat) (w : World) (hs : SmallT t) (h : TrIn w gA gn gc aA an ac t) (ev0 : t.ev.size = 0) (tg0 : t.tg.size = 0) (hg0 : t.g.length = 0) :
    Calls Tryz.prog 7 #[.agg #[.string t.ev, .slice gA gn gc, .slice aA an ac, .string t.tg]] w (RetI w (chkT t)) := by
  have hgn := h.len.1
  have hcap := h.cap.1
  have H1 := Lib.hid (fun W => ris_any t.ev W hs.ev)
  have H2 := Lib.hid (fun W => ris_any t.tg W hs.tg)
  have H3 := Lib.hid (fun W (hW : Below w.heap.size w W) => rcheck_any gA gn gc t.g hgn (by have := hs.glen; omega) hs.g W (h.g.keep hW))
  have H4 := Lib.hid (fun W (hW : Below w.heap.size w W) => rcheck_acts aA an ac t.acts hs.acts hs.alen W (h.a.keep hW))
  have HN := Lib.hid (fun h' => chkT_name (t := t) h')
  have HO := Lib.hid (fun a b c => chkT_nog (t := t) a b c)
  have HX := Lib.hid (fun a b c d => chkT_bad (t := t) a b c d)
  have HG := Lib.hid (fun a b c => chkT_good (t := t) a b c)
  have HL := Lib.hid hgn
  have hn62 : (gn : Int) ≤ 4398046511104 := by have := hs.glen; omega

  have he_nilev := okN_nil ev0
  have gev : decide (0 < t.ev.size) = false := decide_eq_false (by omega)
  have he_niltg := okN_nil tg0
  have gtg : decide (0 < t.tg.size) = false := decide_eq_false (by omega)
  have HR := Lib.hid (HO.out he_nilev he_niltg hg0)
  obtain rfl : gn = 0 := by omega
  obtain ⟨r, hr⟩ : ∃ r, r = chkT t := ⟨_, rfl⟩
  rw [← hr] at HR ⊢
  clear HN HO HX HG HL hr hs h hgn
  clear he_nilev ev0
  clear he_niltg tg0
  clear hg0
  obtain ⟨ev, g, acts, tg⟩ := t
  simp only at *
  go_enter Tryz.func7, Tryz.ntmps7
  go_wp2_with (go_at_call 23; (with_reducible refine (H4.out _ (KitC.below_one _ _)).mono ?_))
  rintro e w2 ⟨rfl, hb⟩
  have HB2 := Lib.hid (And.intro (KitC.one_block hb).1 (KitC.one_block hb).2.1)
  obtain ⟨c0, c1, c2, c3⟩ := cells_4 HB2.out.1
  clear hb
  go_wp2_with fail
  go_ret
  exact ⟨ret_int HR.out.symm, HB2.out.2⟩
set_option maxHeartbeats 4000000 in
theorem trc_nilnilgood (t : Tr) (gA : Option Addr) (gn gc : Nat) (aA : Option Addr) (an ac : Nat) (w : World) (hs : SmallT t) (h : TrIn w gA gn gc aA an ac t) (ev0 : t.ev.size = 0) (tg0 : t.tg.size = 0) (hg0 : 0 < t.g.length) (hk : chk t.g = 0) :
    Calls Tryz.prog 7 #[.agg #[.string t.ev, .slice gA gn gc, .slice aA an ac, .string t.tg]] w (RetI w (chkT t)) := by
  have hgn := h.len.1
  have hcap := h.cap.1
  have H1 := Lib.hid (fun W => ris_any t.ev W hs.ev)
  have H2 := Lib.hid (fun W => ris_any t.tg W hs.tg)
  have H3 := Lib.hid (fun W (hW : Below w.heap.size w W) => rcheck_any gA gn gc t.g hgn (by have := hs.glen; omega) hs.g W (h.g.keep hW))
  have H4 := Lib.hid (fun W (hW : Below w.heap.size w W) => rcheck_acts aA an ac t.acts hs.acts hs.alen W (h.a.keep hW))
  have HN := Lib.hid (fun h' => chkT_name (t := t) h')
  have HO := Lib.hid (fun a b c => chkT_nog (t := t) a b c)
  have HX := Lib.hid (fun a b c d => chkT_bad (t := t) a b c d)
  have HG := Lib.hid (fun a b c => chkT_good (t := t) a b c)
  have HL := Lib.hid hgn
  have hn62 : (gn : Int) ≤ 4398046511104 := by have := hs.glen; omega

  have he_nilev := okN_nil ev0
  have gev : decide (0 < t.ev.size) = false := decide_eq_false (by omega)
  have he_niltg := okN_nil tg0
  have gtg : decide (0 < t.tg.size) = false := decide_eq_false (by omega)
  have HR := Lib.hid (HG.out he_nilev he_niltg hk)
  rw [hk] at H3
  have g0 : decide (0 < gn) = true := by simp; omega
  obtain ⟨r, hr⟩ : ∃ r, r = chkT t := ⟨_, rfl⟩
  rw [← hr] at HR ⊢
  clear HN HO HX HG HL hr hs h hgn
  clear he_nilev ev0
  clear he_niltg tg0
  clear hg0 hk
  obtain ⟨ev, g, acts, tg⟩ := t
  simp only at *
  go_enter Tryz.func7, Tryz.ntmps7
  go_wp2_with (go_at_call 22; (with_reducible refine (H3.out _ (KitC.below_one _ _)).mono ?_))
  rintro e w2 ⟨rfl, hb⟩
  have HB2 := Lib.hid (And.intro (KitC.one_block hb).1 (KitC.one_block hb).2.1)
  obtain ⟨c0, c1, c2, c3⟩ := cells_4 HB2.out.1
  clear hb
  go_wp2_with (go_at_call 23; (with_reducible refine (H4.out _ HB2.out.2).mono ?_))
  rintro e w3 ⟨rfl, hb⟩
  have HB3 := Lib.hid (And.intro (KitC.block_on HB2.out.1 hb) (below_two' HB2.out.2 hb))
  clear hb c0 c1 c2 c3
  obtain ⟨c0, c1, c2, c3⟩ := cells_4 HB3.out.1
  go_wp2_with fail
  go_ret
  exact ⟨ret_int HR.out.symm, HB3.out.2⟩
set_option maxHeartbeats 4000000 in
theorem trc_nilnilfault (t : Tr) (gA : Option Addr) (gn gc : Nat) (aA : Option Addr) (an ac : Nat) (w : World) (hs : SmallT t) (h : TrIn w gA gn gc aA an ac t) (ev0 : t.ev.size = 0) (tg0 : t.tg.size = 0) (hg0 : 0 < t.g.length) (hk : chk t.g ≠ 0) :
    Calls Tryz.prog 7 #[.agg #[.string t.ev, .slice gA gn gc, .slice aA an ac, .string t.tg]] w (RetI w (chkT t)) := by
  have hgn := h.len.1
  have hcap := h.cap.1
  have H1 := Lib.hid (fun W => ris_any t.ev W hs.ev)
  have H2 := Lib.hid (fun W => ris_any t.tg W hs.tg)
  have H3 := Lib.hid (fun W (hW : Below w.heap.size w W) => rcheck_any gA gn gc t.g hgn (by have := hs.glen; omega) hs.g W (h.g.keep hW))
  have H4 := Lib.hid (fun W (hW : Below w.heap.size w W) => rcheck_acts aA an ac t.acts hs.acts hs.alen W (h.a.keep hW))
  have HN := Lib.hid (fun h' => chkT_name (t := t) h')
  have HO := Lib.hid (fun a b c => chkT_nog (t := t) a b c)
  have HX := Lib.hid (fun a b c d => chkT_bad (t := t) a b c d)
  have HG := Lib.hid (fun a b c => chkT_good (t := t) a b c)
  have HL := Lib.hid hgn
  have hn62 : (gn : Int) ≤ 4398046511104 := by have := hs.glen; omega

  have he_nilev := okN_nil ev0
  have gev : decide (0 < t.ev.size) = false := decide_eq_false (by omega)
  have he_niltg := okN_nil tg0
  have gtg : decide (0 < t.tg.size) = false := decide_eq_false (by omega)
  have HR := Lib.hid (HX.out he_nilev he_niltg (by omega) hk)
  have g0 : decide (0 < gn) = true := by simp; omega
  obtain ⟨k, hkk⟩ : ∃ k, k = chk t.g := ⟨_, rfl⟩
  rw [← hkk] at H3 HR hk
  have e1 : (k != 0) = true := by simpa using hk
  obtain ⟨r, hr⟩ : ∃ r, r = chkT t := ⟨_, rfl⟩
  rw [← hr] at HR ⊢
  clear HN HO HX HG HL hr hs h hgn
  clear he_nilev ev0
  clear he_niltg tg0
  clear hg0 hkk hk
  obtain ⟨ev, g, acts, tg⟩ := t
  simp only at *
  go_enter Tryz.func7, Tryz.ntmps7
  go_wp2_with (go_at_call 22; (with_reducible refine (H3.out _ (KitC.below_one _ _)).mono ?_))
  rintro e w2 ⟨rfl, hb⟩
  have HB2 := Lib.hid (And.intro (KitC.one_block hb).1 (KitC.one_block hb).2.1)
  obtain ⟨c0, c1, c2, c3⟩ := cells_4 HB2.out.1
  clear hb
  go_wp2_with (go_at_call 22; (with_reducible refine (H3.out _ HB2.out.2).mono ?_))
  rintro e w3 ⟨rfl, hb⟩
  have HB3 := Lib.hid (And.intro (KitC.block_on HB2.out.1 hb) (below_two' HB2.out.2 hb))
  clear hb c0 c1 c2 c3
  obtain ⟨c0, c1, c2, c3⟩ := cells_4 HB3.out.1
  go_wp2_with fail
  go_ret
  exact ⟨ret_int HR.out.symm, HB3.out.2⟩
set_option maxHeartbeats 4000000 in
theorem trc_niloknone (t : Tr) (gA : Option Addr) (gn gc : Nat) (aA : Option Addr) (an ac : Nat) (w : World) (hs : SmallT t) (h : TrIn w gA gn gc aA an ac t) (ev0 : t.ev.size = 0) (tg0 : 0 < t.tg.size) (tg1 : isName t.tg.data.toList = true) (hg0 : t.g.length = 0) :
    Calls Tryz.prog 7 #[.agg #[.string t.ev, .slice gA gn gc, .slice aA an ac, .string t.tg]] w (RetI w (chkT t)) := by
  have hgn := h.len.1
  have hcap := h.cap.1
  have H1 := Lib.hid (fun W => ris_any t.ev W hs.ev)
  have H2 := Lib.hid (fun W => ris_any t.tg W hs.tg)
  have H3 := Lib.hid (fun W (hW : Below w.heap.size w W) => rcheck_any gA gn gc t.g hgn (by have := hs.glen; omega) hs.g W (h.g.keep hW))
  have H4 := Lib.hid (fun W (hW : Below w.heap.size w W) => rcheck_acts aA an ac t.acts hs.acts hs.alen W (h.a.keep hW))
  have HN := Lib.hid (fun h' => chkT_name (t := t) h')
  have HO := Lib.hid (fun a b c => chkT_nog (t := t) a b c)
  have HX := Lib.hid (fun a b c d => chkT_bad (t := t) a b c d)
  have HG := Lib.hid (fun a b c => chkT_good (t := t) a b c)
  have HL := Lib.hid hgn
  have hn62 : (gn : Int) ≤ 4398046511104 := by have := hs.glen; omega

  have he_nilev := okN_nil ev0
  have gev : decide (0 < t.ev.size) = false := decide_eq_false (by omega)
  have he_oktg : okN t.tg = true := by rw [okN_pos tg0]; exact tg1
  have gtg : decide (0 < t.tg.size) = true := decide_eq_true (by omega)
  rw [tg1] at H2
  have HR := Lib.hid (HO.out he_nilev he_oktg hg0)
  obtain rfl : gn = 0 := by omega
  obtain ⟨r, hr⟩ : ∃ r, r = chkT t := ⟨_, rfl⟩
  rw [← hr] at HR ⊢
  clear HN HO HX HG HL hr hs h hgn
  clear he_nilev ev0
  clear he_oktg tg0 tg1
  clear hg0
  obtain ⟨ev, g, acts, tg⟩ := t
  simp only at *
  go_enter Tryz.func7, Tryz.ntmps7
  go_wp2_with (go_at_call 21; (with_reducible refine (H2.out _).mono ?_))
  rintro e w2 ⟨rfl, hb⟩
  have HB2 := Lib.hid (And.intro (KitC.one_block hb).1 (KitC.one_block hb).2.1)
  obtain ⟨c0, c1, c2, c3⟩ := cells_4 HB2.out.1
  clear hb
  go_wp2_with (go_at_call 23; (with_reducible refine (H4.out _ HB2.out.2).mono ?_))
  rintro e w3 ⟨rfl, hb⟩
  have HB3 := Lib.hid (And.intro (KitC.block_on HB2.out.1 hb) (below_two' HB2.out.2 hb))
  clear hb c0 c1 c2 c3
  obtain ⟨c0, c1, c2, c3⟩ := cells_4 HB3.out.1
  go_wp2_with fail
  go_ret
  exact ⟨ret_int HR.out.symm, HB3.out.2⟩
set_option maxHeartbeats 4000000 in
theorem trc_nilokgood (t : Tr) (gA : Option Addr) (gn gc : Nat) (aA : Option Addr) (an ac : Nat) (w : World) (hs : SmallT t) (h : TrIn w gA gn gc aA an ac t) (ev0 : t.ev.size = 0) (tg0 : 0 < t.tg.size) (tg1 : isName t.tg.data.toList = true) (hg0 : 0 < t.g.length) (hk : chk t.g = 0) :
    Calls Tryz.prog 7 #[.agg #[.string t.ev, .slice gA gn gc, .slice aA an ac, .string t.tg]] w (RetI w (chkT t)) := by
  have hgn := h.len.1
  have hcap := h.cap.1
  have H1 := Lib.hid (fun W => ris_any t.ev W hs.ev)
  have H2 := Lib.hid (fun W => ris_any t.tg W hs.tg)
  have H3 := Lib.hid (fun W (hW : Below w.heap.size w W) => rcheck_any gA gn gc t.g hgn (by have := hs.glen; omega) hs.g W (h.g.keep hW))
  have H4 := Lib.hid (fun W (hW : Below w.heap.size w W) => rcheck_acts aA an ac t.acts hs.acts hs.alen W (h.a.keep hW))
  have HN := Lib.hid (fun h' => chkT_name (t := t) h')
  have HO := Lib.hid (fun a b c => chkT_nog (t := t) a b c)
  have HX := Lib.hid (fun a b c d => chkT_bad (t := t) a b c d)
  have HG := Lib.hid (fun a b c => chkT_good (t := t) a b c)
  have HL := Lib.hid hgn
  have hn62 : (gn : Int) ≤ 4398046511104 := by have := hs.glen; omega

  have he_nilev := okN_nil ev0
  have gev : decide (0 < t.ev.size) = false := decide_eq_false (by omega)
  have he_oktg : okN t.tg = true := by rw [okN_pos tg0]; exact tg1
  have gtg : decide (0 < t.tg.size) = true := decide_eq_true (by omega)
  rw [tg1] at H2
  have HR := Lib.hid (HG.out he_nilev he_oktg hk)
  rw [hk] at H3
  have g0 : decide (0 < gn) = true := by simp; omega
  obtain ⟨r, hr⟩ : ∃ r, r = chkT t := ⟨_, rfl⟩
  rw [← hr] at HR ⊢
  clear HN HO HX HG HL hr hs h hgn
  clear he_nilev ev0
  clear he_oktg tg0 tg1
  clear hg0 hk
  obtain ⟨ev, g, acts, tg⟩ := t
  simp only at *
  go_enter Tryz.func7, Tryz.ntmps7
  go_wp2_with (go_at_call 21; (with_reducible refine (H2.out _).mono ?_))
  rintro e w2 ⟨rfl, hb⟩
  have HB2 := Lib.hid (And.intro (KitC.one_block hb).1 (KitC.one_block hb).2.1)
  obtain ⟨c0, c1, c2, c3⟩ := cells_4 HB2.out.1
  clear hb
  go_wp2_with (go_at_call 22; (with_reducible refine (H3.out _ HB2.out.2).mono ?_))
  rintro e w3 ⟨rfl, hb⟩
  have HB3 := Lib.hid (And.intro (KitC.block_on HB2.out.1 hb) (below_two' HB2.out.2 hb))
  clear hb c0 c1 c2 c3
  obtain ⟨c0, c1, c2, c3⟩ := cells_4 HB3.out.1
  go_wp2_with (go_at_call 23; (with_reducible refine (H4.out _ HB3.out.2).mono ?_))
  rintro e w4 ⟨rfl, hb⟩
  have HB4 := Lib.hid (And.intro (KitC.block_on HB3.out.1 hb) (below_two' HB3.out.2 hb))
  clear hb c0 c1 c2 c3
  obtain ⟨c0, c1, c2, c3⟩ := cells_4 HB4.out.1
  go_wp2_with fail
  go_ret
  exact ⟨ret_int HR.out.symm, HB4.out.2⟩
set_option maxHeartbeats 4000000 in
theorem trc_nilokfault (t : Tr) (gA : Option Addr) (gn gc : Nat) (aA : Option Addr) (an ac : Nat) (w : World) (hs : SmallT t) (h : TrIn w gA gn gc aA an ac t) (ev0 : t.ev.size = 0) (tg0 : 0 < t.tg.size) (tg1 : isName t.tg.data.toList = true) (hg0 : 0 < t.g.length) (hk : chk t.g ≠ 0) :
    Calls Tryz.prog 7 #[.agg #[.string t.ev, .slice gA gn gc, .slice aA an ac, .string t.tg]] w (RetI w (chkT t)) := by
  have hgn := h.len.1
  have hcap := h.cap.1
  have H1 := Lib.hid (fun W => ris_any t.ev W hs.ev)
  have H2 := Lib.hid (fun W => ris_any t.tg W hs.tg)
  have H3 := Lib.hid (fun W (hW : Below w.heap.size w W) => rcheck_any gA gn gc t.g hgn (by have := hs.glen; omega) hs.g W (h.g.keep hW))
  have H4 := Lib.hid (fun W (hW : Below w.heap.size w W) => rcheck_acts aA an ac t.acts hs.acts hs.alen W (h.a.keep hW))
  have HN := Lib.hid (fun h' => chkT_name (t := t) h')
  have HO := Lib.hid (fun a b c => chkT_nog (t := t) a b c)
  have HX := Lib.hid (fun a b c d => chkT_bad (t := t) a b c d)
  have HG := Lib.hid (fun a b c => chkT_good (t := t) a b c)
  have HL := Lib.hid hgn
  have hn62 : (gn : Int) ≤ 4398046511104 := by have := hs.glen; omega

  have he_nilev := okN_nil ev0
  have gev : decide (0 < t.ev.size) = false := decide_eq_false (by omega)
  have he_oktg : okN t.tg = true := by rw [okN_pos tg0]; exact tg1
  have gtg : decide (0 < t.tg.size) = true := decide_eq_true (by omega)
  rw [tg1] at H2
  have HR := Lib.hid (HX.out he_nilev he_oktg (by omega) hk)
  have g0 : decide (0 < gn) = true := by simp; omega
  obtain ⟨k, hkk⟩ : ∃ k, k = chk t.g := ⟨_, rfl⟩
  rw [← hkk] at H3 HR hk
  have e1 : (k != 0) = true := by simpa using hk
  obtain ⟨r, hr⟩ : ∃ r, r = chkT t := ⟨_, rfl⟩
  rw [← hr] at HR ⊢
  clear HN HO HX HG HL hr hs h hgn
  clear he_nilev ev0
  clear he_oktg tg0 tg1
  clear hg0 hkk hk
  obtain ⟨ev, g, acts, tg⟩ := t
  simp only at *
  go_enter Tryz.func7, Tryz.ntmps7
  go_wp2_with (go_at_call 21; (with_reducible refine (H2.out _).mono ?_))
  rintro e w2 ⟨rfl, hb⟩
  have HB2 := Lib.hid (And.intro (KitC.one_block hb).1 (KitC.one_block hb).2.1)
  obtain ⟨c0, c1, c2, c3⟩ := cells_4 HB2.out.1
  clear hb
  go_wp2_with (go_at_call 22; (with_reducible refine (H3.out _ HB2.out.2).mono ?_))
  rintro e w3 ⟨rfl, hb⟩
  have HB3 := Lib.hid (And.intro (KitC.block_on HB2.out.1 hb) (below_two' HB2.out.2 hb))
  clear hb c0 c1 c2 c3
  obtain ⟨c0, c1, c2, c3⟩ := cells_4 HB3.out.1
  go_wp2_with (go_at_call 22; (with_reducible refine (H3.out _ HB3.out.2).mono ?_))
  rintro e w4 ⟨rfl, hb⟩
  have HB4 := Lib.hid (And.intro (KitC.block_on HB3.out.1 hb) (below_two' HB3.out.2 hb))
  clear hb c0 c1 c2 c3
  obtain ⟨c0, c1, c2, c3⟩ := cells_4 HB4.out.1
  go_wp2_with fail
  go_ret
  exact ⟨ret_int HR.out.symm, HB4.out.2⟩
set_option maxHeartbeats 4000000 in
theorem trc_okbad (t : Tr) (gA : Option Addr) (gn gc : Nat) (aA : Option Addr) (an ac : Nat) (w : World) (hs : SmallT t) (h : TrIn w gA gn gc aA an ac t) (ev0 : 0 < t.ev.size) (ev1 : isName t.ev.data.toList = true) (tg0 : 0 < t.tg.size) (tg1 : isName t.tg.data.toList = false) :
    Calls Tryz.prog 7 #[.agg #[.string t.ev, .slice gA gn gc, .slice aA an ac, .string t.tg]] w (RetI w (chkT t)) := by
  have hgn := h.len.1
  have hcap := h.cap.1
  have H1 := Lib.hid (fun W => ris_any t.ev W hs.ev)
  have H2 := Lib.hid (fun W => ris_any t.tg W hs.tg)
  have H3 := Lib.hid (fun W (hW : Below w.heap.size w W) => rcheck_any gA gn gc t.g hgn (by have := hs.glen; omega) hs.g W (h.g.keep hW))
  have H4 := Lib.hid (fun W (hW : Below w.heap.size w W) => rcheck_acts aA an ac t.acts hs.acts hs.alen W (h.a.keep hW))
  have HN := Lib.hid (fun h' => chkT_name (t := t) h')
  have HO := Lib.hid (fun a b c => chkT_nog (t := t) a b c)
  have HX := Lib.hid (fun a b c d => chkT_bad (t := t) a b c d)
  have HG := Lib.hid (fun a b c => chkT_good (t := t) a b c)
  have HL := Lib.hid hgn
  have hn62 : (gn : Int) ≤ 4398046511104 := by have := hs.glen; omega

  have he_okev : okN t.ev = true := by rw [okN_pos ev0]; exact ev1
  have gev : decide (0 < t.ev.size) = true := decide_eq_true (by omega)
  rw [ev1] at H1
  have he_badtg : okN t.tg = false := by rw [okN_pos tg0]; exact tg1
  have gtg : decide (0 < t.tg.size) = true := decide_eq_true (by omega)
  rw [tg1] at H2
  have HR := Lib.hid (HN.out (.inr he_badtg))
  obtain ⟨r, hr⟩ : ∃ r, r = chkT t := ⟨_, rfl⟩
  rw [← hr] at HR ⊢
  clear HN HO HX HG HL hr hs h hgn
  clear he_okev ev0 ev1
  clear he_badtg tg0 tg1
  obtain ⟨ev, g, acts, tg⟩ := t
  simp only at *
  go_enter Tryz.func7, Tryz.ntmps7
  go_wp2_with (go_at_call 21; (with_reducible refine (H1.out _).mono ?_))
  rintro e w2 ⟨rfl, hb⟩
  have HB2 := Lib.hid (And.intro (KitC.one_block hb).1 (KitC.one_block hb).2.1)
  obtain ⟨c0, c1, c2, c3⟩ := cells_4 HB2.out.1
  clear hb
  go_wp2_with (go_at_call 21; (with_reducible refine (H2.out _).mono ?_))
  rintro e w3 ⟨rfl, hb⟩
  have HB3 := Lib.hid (And.intro (KitC.block_on HB2.out.1 hb) (below_two' HB2.out.2 hb))
  clear hb c0 c1 c2 c3
  obtain ⟨c0, c1, c2, c3⟩ := cells_4 HB3.out.1
  go_wp2_with fail
  go_ret
  exact ⟨ret_int HR.out.symm, HB3.out.2⟩
set_option maxHeartbeats 4000000 in
theorem trc_oknilnone (t : Tr) (gA : Option Addr) (gn gc : Nat) (aA : Option Addr) (an ac : Nat) (w : World) (hs : SmallT t) (h : TrIn w gA gn gc aA an ac t) (ev0 : 0 < t.ev.size) (ev1 : isName t.ev.data.toList = true) (tg0 : t.tg.size = 0) (hg0 : t.g.length = 0) :
    Calls Tryz.prog 7 #[.agg #[.string t.ev, .slice gA gn gc, .slice aA an ac, .string t.tg]] w (RetI w (chkT t)) := by
  have hgn := h.len.1
  have hcap := h.cap.1
  have H1 := Lib.hid (fun W => ris_any t.ev W hs.ev)
  have H2 := Lib.hid (fun W => ris_any t.tg W hs.tg)
  have H3 := Lib.hid (fun W (hW : Below w.heap.size w W) => rcheck_any gA gn gc t.g hgn (by have := hs.glen; omega) hs.g W (h.g.keep hW))
  have H4 := Lib.hid (fun W (hW : Below w.heap.size w W) => rcheck_acts aA an ac t.acts hs.acts hs.alen W (h.a.keep hW))
  have HN := Lib.hid (fun h' => chkT_name (t := t) h')
  have HO := Lib.hid (fun a b c => chkT_nog (t := t) a b c)
  have HX := Lib.hid (fun a b c d => chkT_bad (t := t) a b c d)
  have HG := Lib.hid (fun a b c => chkT_good (t := t) a b c)
  have HL := Lib.hid hgn
  have hn62 : (gn : Int) ≤ 4398046511104 := by have := hs.glen; omega

  have he_okev : okN t.ev = true := by rw [okN_pos ev0]; exact ev1
  have gev : decide (0 < t.ev.size) = true := decide_eq_true (by omega)
  rw [ev1] at H1
  have he_niltg := okN_nil tg0
  have gtg : decide (0 < t.tg.size) = false := decide_eq_false (by omega)
  have HR := Lib.hid (HO.out he_okev he_niltg hg0)
  obtain rfl : gn = 0 := by omega
  obtain ⟨r, hr⟩ : ∃ r, r = chkT t := ⟨_, rfl⟩
  rw [← hr] at HR ⊢
  clear HN HO HX HG HL hr hs h hgn
  clear he_okev ev0 ev1
  clear he_niltg tg0
  clear hg0
  obtain ⟨ev, g, acts, tg⟩ := t
  simp only at *
  go_enter Tryz.func7, Tryz.ntmps7
  go_wp2_with (go_at_call 21; (with_reducible refine (H1.out _).mono ?_))
  rintro e w2 ⟨rfl, hb⟩
  have HB2 := Lib.hid (And.intro (KitC.one_block hb).1 (KitC.one_block hb).2.1)
  obtain ⟨c0, c1, c2, c3⟩ := cells_4 HB2.out.1
  clear hb
  go_wp2_with (go_at_call 23; (with_reducible refine (H4.out _ HB2.out.2).mono ?_))
  rintro e w3 ⟨rfl, hb⟩
  have HB3 := Lib.hid (And.intro (KitC.block_on HB2.out.1 hb) (below_two' HB2.out.2 hb))
  clear hb c0 c1 c2 c3
  obtain ⟨c0, c1, c2, c3⟩ := cells_4 HB3.out.1
  go_wp2_with fail
  go_ret
  exact ⟨ret_int HR.out.symm, HB3.out.2⟩
set_option maxHeartbeats 4000000 in
theorem trc_oknilgood (t : Tr) (gA : Option Addr) (gn gc : Nat) (aA : Option Addr) (an ac : Nat) (w : World) (hs : SmallT t) (h : TrIn w gA gn gc aA an ac t) (ev0 : 0 < t.ev.size) (ev1 : isName t.ev.data.toList = true) (tg0 : t.tg.size = 0) (hg0 : 0 < t.g.length) (hk : chk t.g = 0) :
    Calls Tryz.prog 7 #[.agg #[.string t.ev, .slice gA gn gc, .slice aA an ac, .string t.tg]] w (RetI w (chkT t)) := by
  have hgn := h.len.1
  have hcap := h.cap.1
  have H1 := Lib.hid (fun W => ris_any t.ev W hs.ev)
  have H2 := Lib.hid (fun W => ris_any t.tg W hs.tg)
  have H3 := Lib.hid (fun W (hW : Below w.heap.size w W) => rcheck_any gA gn gc t.g hgn (by have := hs.glen; omega) hs.g W (h.g.keep hW))
  have H4 := Lib.hid (fun W (hW : Below w.heap.size w W) => rcheck_acts aA an ac t.acts hs.acts hs.alen W (h.a.keep hW))
  have HN := Lib.hid (fun h' => chkT_name (t := t) h')
  have HO := Lib.hid (fun a b c => chkT_nog (t := t) a b c)
  have HX := Lib.hid (fun a b c d => chkT_bad (t := t) a b c d)
  have HG := Lib.hid (fun a b c => chkT_good (t := t) a b c)
  have HL := Lib.hid hgn
  have hn62 : (gn : Int) ≤ 4398046511104 := by have := hs.glen; omega

  have he_okev : okN t.ev = true := by rw [okN_pos ev0]; exact ev1
  have gev : decide (0 < t.ev.size) = true := decide_eq_true (by omega)
  rw [ev1] at H1
  have he_niltg := okN_nil tg0
  have gtg : decide (0 < t.tg.size) = false := decide_eq_false (by omega)
  have HR := Lib.hid (HG.out he_okev he_niltg hk)
  rw [hk] at H3
  have g0 : decide (0 < gn) = true := by simp; omega
  obtain ⟨r, hr⟩ : ∃ r, r = chkT t := ⟨_, rfl⟩
  rw [← hr] at HR ⊢
  clear HN HO HX HG HL hr hs h hgn
  clear he_okev ev0 ev1
  clear he_niltg tg0
  clear hg0 hk
  obtain ⟨ev, g, acts, tg⟩ := t
  simp only at *
  go_enter Tryz.func7, Tryz.ntmps7
  go_wp2_with (go_at_call 21; (with_reducible refine (H1.out _).mono ?_))
  rintro e w2 ⟨rfl, hb⟩
  have HB2 := Lib.hid (And.intro (KitC.one_block hb).1 (KitC.one_block hb).2.1)
  obtain ⟨c0, c1, c2, c3⟩ := cells_4 HB2.out.1
  clear hb
  go_wp2_with (go_at_call 22; (with_reducible refine (H3.out _ HB2.out.2).mono ?_))
  rintro e w3 ⟨rfl, hb⟩
  have HB3 := Lib.hid (And.intro (KitC.block_on HB2.out.1 hb) (below_two' HB2.out.2 hb))
  clear hb c0 c1 c2 c3
  obtain ⟨c0, c1, c2, c3⟩ := cells_4 HB3.out.1
  go_wp2_with (go_at_call 23; (with_reducible refine (H4.out _ HB3.out.2).mono ?_))
  rintro e w4 ⟨rfl, hb⟩
  have HB4 := Lib.hid (And.intro (KitC.block_on HB3.out.1 hb) (below_two' HB3.out.2 hb))
  clear hb c0 c1 c2 c3
  obtain ⟨c0, c1, c2, c3⟩ := cells_4 HB4.out.1
  go_wp2_with fail
  go_ret
  exact ⟨ret_int HR.out.symm, HB4.out.2⟩
set_option maxHeartbeats 4000000 in
theorem trc_oknilfault (t : Tr) (gA : Option Addr) (gn gc : Nat) (aA : Option Addr) (an ac : Nat) (w : World) (hs : SmallT t) (h : TrIn w gA gn gc aA an ac t) (ev0 : 0 < t.ev.size) (ev1 : isName t.ev.data.toList = true) (tg0 : t.tg.size = 0) (hg0 : 0 < t.g.length) (hk : chk t.g ≠ 0) :
    Calls Tryz.prog 7 #[.agg #[.string t.ev, .slice gA gn gc, .slice aA an ac, .string t.tg]] w (RetI w (chkT t)) := by
  have hgn := h.len.1
  have hcap := h.cap.1
  have H1 := Lib.hid (fun W => ris_any t.ev W hs.ev)
  have H2 := Lib.hid (fun W => ris_any t.tg W hs.tg)
  have H3 := Lib.hid (fun W (hW : Below w.heap.size w W) => rcheck_any gA gn gc t.g hgn (by have := hs.glen; omega) hs.g W (h.g.keep hW))
  have H4 := Lib.hid (fun W (hW : Below w.heap.size w W) => rcheck_acts aA an ac t.acts hs.acts hs.alen W (h.a.keep hW))
  have HN := Lib.hid (fun h' => chkT_name (t := t) h')
  have HO := Lib.hid (fun a b c => chkT_nog (t := t) a b c)
  have HX := Lib.hid (fun a b c d => chkT_bad (t := t) a b c d)
  have HG := Lib.hid (fun a b c => chkT_good (t := t) a b c)
  have HL := Lib.hid hgn
  have hn62 : (gn : Int) ≤ 4398046511104 := by have := hs.glen; omega

  have he_okev : okN t.ev = true := by rw [okN_pos ev0]; exact ev1
  have gev : decide (0 < t.ev.size) = true := decide_eq_true (by omega)
  rw [ev1] at H1
  have he_niltg := okN_nil tg0
  have gtg : decide (0 < t.tg.size) = false := decide_eq_false (by omega)
  have HR := Lib.hid (HX.out he_okev he_niltg (by omega) hk)
  have g0 : decide (0 < gn) = true := by simp; omega
  obtain ⟨k, hkk⟩ : ∃ k, k = chk t.g := ⟨_, rfl⟩
  rw [← hkk] at H3 HR hk
  have e1 : (k != 0) = true := by simpa using hk
  obtain ⟨r, hr⟩ : ∃ r, r = chkT t := ⟨_, rfl⟩
  rw [← hr] at HR ⊢
  clear HN HO HX HG HL hr hs h hgn
  clear he_okev ev0 ev1
  clear he_niltg tg0
  clear hg0 hkk hk
  obtain ⟨ev, g, acts, tg⟩ := t
  simp only at *
  go_enter Tryz.func7, Tryz.ntmps7
  go_wp2_with (go_at_call 21; (with_reducible refine (H1.out _).mono ?_))
  rintro e w2 ⟨rfl, hb⟩
  have HB2 := Lib.hid (And.intro (KitC.one_block hb).1 (KitC.one_block hb).2.1)
  obtain ⟨c0, c1, c2, c3⟩ := cells_4 HB2.out.1
  clear hb
  go_wp2_with (go_at_call 22; (with_reducible refine (H3.out _ HB2.out.2).mono ?_))
  rintro e w3 ⟨rfl, hb⟩
  have HB3 := Lib.hid (And.intro (KitC.block_on HB2.out.1 hb) (below_two' HB2.out.2 hb))
  clear hb c0 c1 c2 c3
  obtain ⟨c0, c1, c2, c3⟩ := cells_4 HB3.out.1
  go_wp2_with (go_at_call 22; (with_reducible refine (H3.out _ HB3.out.2).mono ?_))
  rintro e w4 ⟨rfl, hb⟩
  have HB4 := Lib.hid (And.intro (KitC.block_on HB3.out.1 hb) (below_two' HB3.out.2 hb))
  clear hb c0 c1 c2 c3
  obtain ⟨c0, c1, c2, c3⟩ := cells_4 HB4.out.1
  go_wp2_with fail
  go_ret
  exact ⟨ret_int HR.out.symm, HB4.out.2⟩
set_option maxHeartbeats 4000000 in
theorem trc_okoknone (t : Tr) (gA : Option Addr) (gn gc : Nat) (aA : Option Addr) (an ac : Nat) (w : World) (hs : SmallT t) (h : TrIn w gA gn gc aA an ac t) (ev0 : 0 < t.ev.size) (ev1 : isName t.ev.data.toList = true) (tg0 : 0 < t.tg.size) (tg1 : isName t.tg.data.toList = true) (hg0 : t.g.length = 0) :
    Calls Tryz.prog 7 #[.agg #[.string t.ev, .slice gA gn gc, .slice aA an ac, .string t.tg]] w (RetI w (chkT t)) := by
  have hgn := h.len.1
  have hcap := h.cap.1
  have H1 := Lib.hid (fun W => ris_any t.ev W hs.ev)
  have H2 := Lib.hid (fun W => ris_any t.tg W hs.tg)
  have H3 := Lib.hid (fun W (hW : Below w.heap.size w W) => rcheck_any gA gn gc t.g hgn (by have := hs.glen; omega) hs.g W (h.g.keep hW))
  have H4 := Lib.hid (fun W (hW : Below w.heap.size w W) => rcheck_acts aA an ac t.acts hs.acts hs.alen W (h.a.keep hW))
  have HN := Lib.hid (fun h' => chkT_name (t := t) h')
  have HO := Lib.hid (fun a b c => chkT_nog (t := t) a b c)
  have HX := Lib.hid (fun a b c d => chkT_bad (t := t) a b c d)
  have HG := Lib.hid (fun a b c => chkT_good (t := t) a b c)
  have HL := Lib.hid hgn
  have hn62 : (gn : Int) ≤ 4398046511104 := by have := hs.glen; omega

  have he_okev : okN t.ev = true := by rw [okN_pos ev0]; exact ev1
  have gev : decide (0 < t.ev.size) = true := decide_eq_true (by omega)
  rw [ev1] at H1
  have he_oktg : okN t.tg = true := by rw [okN_pos tg0]; exact tg1
  have gtg : decide (0 < t.tg.size) = true := decide_eq_true (by omega)
  rw [tg1] at H2
  have HR := Lib.hid (HO.out he_okev he_oktg hg0)
  obtain rfl : gn = 0 := by omega
  obtain ⟨r, hr⟩ : ∃ r, r = chkT t := ⟨_, rfl⟩
  rw [← hr] at HR ⊢
  clear HN HO HX HG HL hr hs h hgn
  clear he_okev ev0 ev1
  clear he_oktg tg0 tg1
  clear hg0
  obtain ⟨ev, g, acts, tg⟩ := t
  simp only at *
  go_enter Tryz.func7, Tryz.ntmps7
  go_wp2_with (go_at_call 21; (with_reducible refine (H1.out _).mono ?_))
  rintro e w2 ⟨rfl, hb⟩
  have HB2 := Lib.hid (And.intro (KitC.one_block hb).1 (KitC.one_block hb).2.1)
  obtain ⟨c0, c1, c2, c3⟩ := cells_4 HB2.out.1
  clear hb
  go_wp2_with (go_at_call 21; (with_reducible refine (H2.out _).mono ?_))
  rintro e w3 ⟨rfl, hb⟩
  have HB3 := Lib.hid (And.intro (KitC.block_on HB2.out.1 hb) (below_two' HB2.out.2 hb))
  clear hb c0 c1 c2 c3
  obtain ⟨c0, c1, c2, c3⟩ := cells_4 HB3.out.1
  go_wp2_with (go_at_call 23; (with_reducible refine (H4.out _ HB3.out.2).mono ?_))
  rintro e w4 ⟨rfl, hb⟩
  have HB4 := Lib.hid (And.intro (KitC.block_on HB3.out.1 hb) (below_two' HB3.out.2 hb))
  clear hb c0 c1 c2 c3
  obtain ⟨c0, c1, c2, c3⟩ := cells_4 HB4.out.1
  go_wp2_with fail
  go_ret
  exact ⟨ret_int HR.out.symm, HB4.out.2⟩
set_option maxHeartbeats 4000000 in
theorem trc_okokgood (t : Tr) (gA : Option Addr) (gn gc : Nat) (aA : Option Addr) (an ac : Nat) (w : World) (hs : SmallT t) (h : TrIn w gA gn gc aA an ac t) (ev0 : 0 < t.ev.size) (ev1 : isName t.ev.data.toList = true) (tg0 : 0 < t.tg.size) (tg1 : isName t.tg.data.toList = true) (hg0 : 0 < t.g.length) (hk : chk t.g = 0) :
    Calls Tryz.prog 7 #[.agg #[.string t.ev, .slice gA gn gc, .slice aA an ac, .string t.tg]] w (RetI w (chkT t)) := by
  have hgn := h.len.1
  have hcap := h.cap.1
  have H1 := Lib.hid (fun W => ris_any t.ev W hs.ev)
  have H2 := Lib.hid (fun W => ris_any t.tg W hs.tg)
  have H3 := Lib.hid (fun W (hW : Below w.heap.size w W) => rcheck_any gA gn gc t.g hgn (by have := hs.glen; omega) hs.g W (h.g.keep hW))
  have H4 := Lib.hid (fun W (hW : Below w.heap.size w W) => rcheck_acts aA an ac t.acts hs.acts hs.alen W (h.a.keep hW))
  have HN := Lib.hid (fun h' => chkT_name (t := t) h')
  have HO := Lib.hid (fun a b c => chkT_nog (t := t) a b c)
  have HX := Lib.hid (fun a b c d => chkT_bad (t := t) a b c d)
  have HG := Lib.hid (fun a b c => chkT_good (t := t) a b c)
  have HL := Lib.hid hgn
  have hn62 : (gn : Int) ≤ 4398046511104 := by have := hs.glen; omega

  have he_okev : okN t.ev = true := by rw [okN_pos ev0]; exact ev1
  have gev : decide (0 < t.ev.size) = true := decide_eq_true (by omega)
  rw [ev1] at H1
  have he_oktg : okN t.tg = true := by rw [okN_pos tg0]; exact tg1
  have gtg : decide (0 < t.tg.size) = true := decide_eq_true (by omega)
  rw [tg1] at H2
  have HR := Lib.hid (HG.out he_okev he_oktg hk)
  rw [hk] at H3
  have g0 : decide (0 < gn) = true := by simp; omega
  obtain ⟨r, hr⟩ : ∃ r, r = chkT t := ⟨_, rfl⟩
  rw [← hr] at HR ⊢
  clear HN HO HX HG HL hr hs h hgn
  clear he_okev ev0 ev1
  clear he_oktg tg0 tg1
  clear hg0 hk
  obtain ⟨ev, g, acts, tg⟩ := t
  simp only at *
  go_enter Tryz.func7, Tryz.ntmps7
  go_wp2_with (go_at_call 21; (with_reducible refine (H1.out _).mono ?_))
  rintro e w2 ⟨rfl, hb⟩
  have HB2 := Lib.hid (And.intro (KitC.one_block hb).1 (KitC.one_block hb).2.1)
  obtain ⟨c0, c1, c2, c3⟩ := cells_4 HB2.out.1
  clear hb
  go_wp2_with (go_at_call 21; (with_reducible refine (H2.out _).mono ?_))
  rintro e w3 ⟨rfl, hb⟩
  have HB3 := Lib.hid (And.intro (KitC.block_on HB2.out.1 hb) (below_two' HB2.out.2 hb))
  clear hb c0 c1 c2 c3
  obtain ⟨c0, c1, c2, c3⟩ := cells_4 HB3.out.1
  go_wp2_with (go_at_call 22; (with_reducible refine (H3.out _ HB3.out.2).mono ?_))
  rintro e w4 ⟨rfl, hb⟩
  have HB4 := Lib.hid (And.intro (KitC.block_on HB3.out.1 hb) (below_two' HB3.out.2 hb))
  clear hb c0 c1 c2 c3
  obtain ⟨c0, c1, c2, c3⟩ := cells_4 HB4.out.1
  go_wp2_with (go_at_call 23; (with_reducible refine (H4.out _ HB4.out.2).mono ?_))
  rintro e w5 ⟨rfl, hb⟩
  have HB5 := Lib.hid (And.intro (KitC.block_on HB4.out.1 hb) (below_two' HB4.out.2 hb))
  clear hb c0 c1 c2 c3
  obtain ⟨c0, c1, c2, c3⟩ := cells_4 HB5.out.1
  go_wp2_with fail
  go_ret
  exact ⟨ret_int HR.out.symm, HB5.out.2⟩
set_option maxHeartbeats 4000000 in
theorem trc_okokfault (t : Tr) (gA : Option Addr) (gn gc : Nat) (aA : Option Addr) (an ac : Nat) (w : World) (hs : SmallT t) (h : TrIn w gA gn gc aA an ac t) (ev0 : 0 < t.ev.size) (ev1 : isName t.ev.data.toList = true) (tg0 : 0 < t.tg.size) (tg1 : isName t.tg.data.toList = true) (hg0 : 0 < t.g.length) (hk : chk t.g ≠ 0) :
    Calls Tryz.prog 7 #[.agg #[.string t.ev, .slice gA gn gc, .slice aA an ac, .string t.tg]] w (RetI w (chkT t)) := by
  have hgn := h.len.1
  have hcap := h.cap.1
  have H1 := Lib.hid (fun W => ris_any t.ev W hs.ev)
  have H2 := Lib.hid (fun W => ris_any t.tg W hs.tg)
  have H3 := Lib.hid (fun W (hW : Below w.heap.size w W) => rcheck_any gA gn gc t.g hgn (by have := hs.glen; omega) hs.g W (h.g.keep hW))
  have H4 := Lib.hid (fun W (hW : Below w.heap.size w W) => rcheck_acts aA an ac t.acts hs.acts hs.alen W (h.a.keep hW))
  have HN := Lib.hid (fun h' => chkT_name (t := t) h')
  have HO := Lib.hid (fun a b c => chkT_nog (t := t) a b c)
  have HX := Lib.hid (fun a b c d => chkT_bad (t := t) a b c d)
  have HG := Lib.hid (fun a b c => chkT_good (t := t) a b c)
  have HL := Lib.hid hgn
  have hn62 : (gn : Int) ≤ 4398046511104 := by have := hs.glen; omega

  have he_okev : okN t.ev = true := by rw [okN_pos ev0]; exact ev1
  have gev : decide (0 < t.ev.size) = true := decide_eq_true (by omega)
  rw [ev1] at H1
  have he_oktg : okN t.tg = true := by rw [okN_pos tg0]; exact tg1
  have gtg : decide (0 < t.tg.size) = true := decide_eq_true (by omega)
  rw [tg1] at H2
  have HR := Lib.hid (HX.out he_okev he_oktg (by omega) hk)
  have g0 : decide (0 < gn) = true := by simp; omega
  obtain ⟨k, hkk⟩ : ∃ k, k = chk t.g := ⟨_, rfl⟩
  rw [← hkk] at H3 HR hk
  have e1 : (k != 0) = true := by simpa using hk
  obtain ⟨r, hr⟩ : ∃ r, r = chkT t := ⟨_, rfl⟩
  rw [← hr] at HR ⊢
  clear HN HO HX HG HL hr hs h hgn
  clear he_okev ev0 ev1
  clear he_oktg tg0 tg1
  clear hg0 hkk hk
  obtain ⟨ev, g, acts, tg⟩ := t
  simp only at *
  go_enter Tryz.func7, Tryz.ntmps7
  go_wp2_with (go_at_call 21; (with_reducible refine (H1.out _).mono ?_))
  rintro e w2 ⟨rfl, hb⟩
  have HB2 := Lib.hid (And.intro (KitC.one_block hb).1 (KitC.one_block hb).2.1)
  obtain ⟨c0, c1, c2, c3⟩ := cells_4 HB2.out.1
  clear hb
  go_wp2_with (go_at_call 21; (with_reducible refine (H2.out _).mono ?_))
  rintro e w3 ⟨rfl, hb⟩
  have HB3 := Lib.hid (And.intro (KitC.block_on HB2.out.1 hb) (below_two' HB2.out.2 hb))
  clear hb c0 c1 c2 c3
  obtain ⟨c0, c1, c2, c3⟩ := cells_4 HB3.out.1
  go_wp2_with (go_at_call 22; (with_reducible refine (H3.out _ HB3.out.2).mono ?_))
  rintro e w4 ⟨rfl, hb⟩
  have HB4 := Lib.hid (And.intro (KitC.block_on HB3.out.1 hb) (below_two' HB3.out.2 hb))
  clear hb c0 c1 c2 c3
  obtain ⟨c0, c1, c2, c3⟩ := cells_4 HB4.out.1
  go_wp2_with (go_at_call 22; (with_reducible refine (H3.out _ HB4.out.2).mono ?_))
  rintro e w5 ⟨rfl, hb⟩
  have HB5 := Lib.hid (And.intro (KitC.block_on HB4.out.1 hb) (below_two' HB4.out.2 hb))
  clear hb c0 c1 c2 c3
  obtain ⟨c0, c1, c2, c3⟩ := cells_4 HB5.out.1
  go_wp2_with fail
  go_ret
  exact ⟨ret_int HR.out.symm, HB5.out.2⟩
theorem trcheck_any (t : Tr) (gA : Option Addr) (gn gc : Nat) (aA : Option Addr) (an ac : Nat) (w : World) (hs : SmallT t) (h : TrIn w gA gn gc aA an ac t) :
    Calls Tryz.prog 7 #[.agg #[.string t.ev, .slice gA gn gc, .slice aA an ac, .string t.tg]] w (RetI w (chkT t)) := by
  rcases Nat.eq_zero_or_pos t.g.length with hg0 | hg0
  · rcases Nat.eq_zero_or_pos t.ev.size with e0 | e0
    · rcases Nat.eq_zero_or_pos t.tg.size with f0 | f0
      · exact trc_nilnilnone t gA gn gc aA an ac w hs h e0 f0 hg0
      · rcases f1 : isName t.tg.data.toList with _ | _
        · exact trc_nilbad t gA gn gc aA an ac w hs h e0 f0 f1
        · exact trc_niloknone t gA gn gc aA an ac w hs h e0 f0 f1 hg0
    · rcases e1 : isName t.ev.data.toList with _ | _
      · exact trc_bad t gA gn gc aA an ac w hs h e0 e1
      · rcases Nat.eq_zero_or_pos t.tg.size with f0 | f0
        · exact trc_oknilnone t gA gn gc aA an ac w hs h e0 e1 f0 hg0
        · rcases f1 : isName t.tg.data.toList with _ | _
          · exact trc_okbad t gA gn gc aA an ac w hs h e0 e1 f0 f1
          · exact trc_okoknone t gA gn gc aA an ac w hs h e0 e1 f0 f1 hg0
  · by_cases hk : chk t.g = 0
    · rcases Nat.eq_zero_or_pos t.ev.size with e0 | e0
      · rcases Nat.eq_zero_or_pos t.tg.size with f0 | f0
        · exact trc_nilnilgood t gA gn gc aA an ac w hs h e0 f0 hg0 hk
        · rcases f1 : isName t.tg.data.toList with _ | _
          · exact trc_nilbad t gA gn gc aA an ac w hs h e0 f0 f1
          · exact trc_nilokgood t gA gn gc aA an ac w hs h e0 f0 f1 hg0 hk
      · rcases e1 : isName t.ev.data.toList with _ | _
        · exact trc_bad t gA gn gc aA an ac w hs h e0 e1
        · rcases Nat.eq_zero_or_pos t.tg.size with f0 | f0
          · exact trc_oknilgood t gA gn gc aA an ac w hs h e0 e1 f0 hg0 hk
          · rcases f1 : isName t.tg.data.toList with _ | _
            · exact trc_okbad t gA gn gc aA an ac w hs h e0 e1 f0 f1
            · exact trc_okokgood t gA gn gc aA an ac w hs h e0 e1 f0 f1 hg0 hk
    · rcases Nat.eq_zero_or_pos t.ev.size with e0 | e0
      · rcases Nat.eq_zero_or_pos t.tg.size with f0 | f0
        · exact trc_nilnilfault t gA gn gc aA an ac w hs h e0 f0 hg0 hk
        · rcases f1 : isName t.tg.data.toList with _ | _
          · exact trc_nilbad t gA gn gc aA an ac w hs h e0 f0 f1
          · exact trc_nilokfault t gA gn gc aA an ac w hs h e0 f0 f1 hg0 hk
      · rcases e1 : isName t.ev.data.toList with _ | _
        · exact trc_bad t gA gn gc aA an ac w hs h e0 e1
        · rcases Nat.eq_zero_or_pos t.tg.size with f0 | f0
          · exact trc_oknilfault t gA gn gc aA an ac w hs h e0 e1 f0 hg0 hk
          · rcases f1 : isName t.tg.data.toList with _ | _
            · exact trc_okbad t gA gn gc aA an ac w hs h e0 e1 f0 f1
            · exact trc_okokfault t gA gn gc aA an ac w hs h e0 e1 f0 f1 hg0 hk
end Go.Proofs.YtobpcpfomdblgaaGreatDoor

namespace Go.Proofs.YtobpcpfomdblgaaGreatDoor
open Go.RowKit TermSpec EvalSpec ValSpec

end Go.Proofs.YtobpcpfomdblgaaGreatDoor

namespace Go.Proofs.YtobpcpfomdblgaaGreatDoor
open Go.RowKit TermSpec EvalSpec NamesSpec Go.Lib ValSpec

end Go.Proofs.YtobpcpfomdblgaaGreatDoor

namespace Go.Proofs.YtobpcpfomdblgaaGreatDoor
open Go.RowKit TermSpec EvalSpec NamesSpec Go.Lib ValSpec

end Go.Proofs.YtobpcpfomdblgaaGreatDoor

namespace Go.Proofs.YtobpcpfomdblgaaGreatDoor
open Go.RowKit TermSpec EvalSpec NamesSpec

/-- The cells of an Env by value. -/
abbrev envO (p : EP) (e : Ev) : Obj := .cells #[.slice p.vA p.vn p.vc, .int .i64 e.v0, .int .i64 e.v1, .int .i64 e.v2, .int .i64 e.v3, .slice p.iA p.im p.ic] 50
end Go.Proofs.YtobpcpfomdblgaaGreatDoor

namespace Go.Proofs.YtobpcpfomdblgaaGreatDoor
open Go.RowKit TermSpec EvalSpec
set_option maxRecDepth 100000

def shortS (s : ByteArray) : Bool := decide (s.size ≤ 100)
def lightE (e : Ev) (l : List Tm) : Bool := (decide (l.length ≤ 60) && decide (e.vars.length ≤ 20) && decide (e.ins.length ≤ 80)) && (l.all (fun t => shortS t.s) && (e.ins.all shortS && e.vars.all (fun v => shortS v.s)))
theorem all_stop' {α : Type} {f : α → Bool} {l : List α} {k : Nat} {x : α} (h : l[k]? = some x) (hx : f x = false) : l.all f = false := by
  rw [List.all_eq_false]
  exact ⟨x, List.mem_of_getElem? h, by simp [hx]⟩
theorem all_next' {α : Type} {f : α → Bool} {l : List α} {k : Nat} {x : α} (h : l[k]? = some x) (hx : f x = true) (h0 : (l.take k).all f = true) : (l.take (k + 1)).all f = true := by
  rw [take_next h, List.all_append, h0]; simp [hx]
theorem all_end' {α : Type} {f : α → Bool} {l : List α} {k : Nat} (h : l.length ≤ k) (h0 : (l.take k).all f = true) : l.all f = true := by rwa [List.take_of_length_le h] at h0
theorem light_parts {e : Ev} {l : List Tm} (h : lightE e l = true) : l.length ≤ 60 ∧ e.vars.length ≤ 20 ∧ e.ins.length ≤ 80 ∧ (∀ t ∈ l, t.s.size ≤ 100) := by
  unfold lightE at h
  simp only [Bool.and_eq_true, decide_eq_true_eq, List.all_eq_true, shortS] at h
  exact ⟨h.1.1.1, h.1.1.2, h.1.2, h.2.1⟩

theorem light_big (p : EP) (e : Ev) (A : Option Addr) (n c : Nat) (l : List Tm) (hn : n = l.length) (w : World) (he : EnvIn w p e) (hb : 60 < n ∨ 20 < e.vars.length ∨ 80 < e.ins.length) :
    Calls Tryz.prog 17 #[.slice A n c, envV p e] w (RetB w (lightE e l)) := by
  have HR : Hid (lightE e l = false) := Lib.hid (by
    unfold lightE
    rcases hb with h | h | h
    · rw [show decide (l.length ≤ 60) = false by simp; omega]; simp
    · rw [show decide (e.vars.length ≤ 20) = false by simp; omega]; simp
    · rw [show decide (e.ins.length ≤ 80) = false by simp; omega]; simp)
  have hv := he.vars.1
  have hi := he.ins.strs
  obtain ⟨vA, vn, vc, iA, im, ic⟩ := p
  obtain ⟨A', n', c', heq, hi, _, _⟩ := hi
  cases heq
  simp only at hv hi
  obtain ⟨r, hr⟩ : ∃ r, r = lightE e l := ⟨_, rfl⟩
  rw [← hr] at HR ⊢
  have hb' : 60 < (n : Int) ∨ (¬ 60 < (n : Int) ∧ 20 < (vn : Int)) ∨ (¬ 60 < (n : Int) ∧ ¬ 20 < (vn : Int) ∧ 80 < (im : Int)) := by omega
  obtain ⟨vars, v0, v1, v2, v3, ins⟩ := e
  change Calls _ _ #[.slice A n c, .agg #[.slice vA vn vc, .int .i64 v0, .int .i64 v1, .int .i64 v2, .int .i64 v3, .slice iA im ic]] _ _
  clear hr he hb hv hi hn
  rcases hb' with h | ⟨h, h'⟩ | ⟨h, h', h''⟩
  · have g : decide (60 < (n : Int)) = true := by simp; omega
    go_enter Tryz.func17, Tryz.ntmps17
    go_wp2_with fail
    go_ret
    exact ⟨ret_bool HR.out.symm, KitC.below_one _ _⟩
  · have g : decide (60 < (n : Int)) = false := by simp; omega
    have g2 : decide (20 < (vn : Int)) = true := by simp; omega
    go_enter Tryz.func17, Tryz.ntmps17
    go_wp2_with fail
    go_ret
    exact ⟨ret_bool HR.out.symm, KitC.below_one _ _⟩
  · have g : decide (60 < (n : Int)) = false := by simp; omega
    have g2 : decide (20 < (vn : Int)) = false := by simp; omega
    have g3 : decide (80 < (im : Int)) = true := by simp; omega
    go_enter Tryz.func17, Tryz.ntmps17
    go_wp2_with fail
    go_ret
    exact ⟨ret_bool HR.out.symm, KitC.below_one _ _⟩
set_option maxHeartbeats 4000000 in
theorem light_few' (p : EP) (e : Ev) (A : Option Addr) (n c : Nat) (l : List Tm) (hn : n = l.length) (w : World) (h : Tms w (.slice A n c) l) (he : EnvIn w p e) (hb : n ≤ 60 ∧ e.vars.length ≤ 20 ∧ e.ins.length ≤ 80) :
    Calls Tryz.prog 17 #[.slice A n c, envV p e] w (RetB w (lightE e l)) := by
  have HR : Hid (lightE e l = (l.all (fun t => shortS t.s) && (e.ins.all shortS && e.vars.all (fun v => shortS v.s)))) := Lib.hid (by
    unfold lightE
    rw [show decide (l.length ≤ 60) = true by simp; omega, show decide (e.vars.length ≤ 20) = true by simp; omega, show decide (e.ins.length ≤ 80) = true by simp; omega]
    simp)
  have hv := he.vars.1
  have hi := he.ins.strs
  have HT := Lib.hid (h.keep (KitC.below_one w (envO p e)))
  have HV := Lib.hid (he.vars.keep (KitC.below_one w (envO p e)))
  have HI := Lib.hid (he.ins.alloc (envO p e)).strs
  obtain ⟨vA, vn, vc, iA, im, ic⟩ := p
  obtain ⟨A', n', c', heq, hi, _, _⟩ := hi
  cases heq
  simp only at hv hi
  obtain ⟨r, hr⟩ : ∃ r, r = lightE e l := ⟨_, rfl⟩
  rw [← hr] at HR ⊢
  have HN := Lib.hid hn
  have HVN := Lib.hid hv
  have HIN := Lib.hid hi
  obtain ⟨hb1, hb2, hb3⟩ := hb
  have hb2' : vn ≤ 20 := by omega
  have hb3' : im ≤ 80 := by omega
  have g : decide (60 < (n : Int)) = false := by simp; omega
  have g2 : decide (20 < (vn : Int)) = false := by simp; omega
  have g3 : decide (80 < (im : Int)) = false := by simp; omega
  have hcap := h.cap
  obtain ⟨vars, v0, v1, v2, v3, ins⟩ := e
  simp only at HVN HIN HT HV HI HR
  change Calls _ _ #[.slice A n c, .agg #[.slice vA vn vc, .int .i64 v0, .int .i64 v1, .int .i64 v2, .int .i64 v3, .slice iA im ic]] _ _
  obtain ⟨W1, hW1⟩ : ∃ W1, w.alloc (.cells #[.slice vA vn vc, .int .i64 v0, .int .i64 v1, .int .i64 v2, .int .i64 v3, .slice iA im ic] 50) = W1 := ⟨_, rfl⟩
  have hBk := heap_alloc_new w (.cells #[.slice vA vn vc, .int .i64 v0, .int .i64 v1, .int .i64 v2, .int .i64 v3, .slice iA im ic] 50)
  have hBl := KitC.below_one w (.cells #[.slice vA vn vc, .int .i64 v0, .int .i64 v1, .int .i64 v2, .int .i64 v3, .slice iA im ic] 50)
  change Hid (Tms (w.alloc (.cells #[.slice vA vn vc, .int .i64 v0, .int .i64 v1, .int .i64 v2, .int .i64 v3, .slice iA im ic] 50)) _ _) at HT
  change Hid (VarsIn (w.alloc (.cells #[.slice vA vn vc, .int .i64 v0, .int .i64 v1, .int .i64 v2, .int .i64 v3, .slice iA im ic] 50)) _ _ _ _) at HV
  rw [hW1] at HT HV hBk hBl
  have HI' : Hid (0 < im → ∃ b off, iA = some ⟨b, off, none⟩ ∧ b < W1.heap.size ∧ ∀ (j : Nat) (s : ByteArray), ins[j]? = some s → W1.cell? ⟨b, off + j, none⟩ = some (.string s)) := Lib.hid (by
    obtain ⟨A', n', c', heq, _, _, hA⟩ := HI.out
    cases heq
    rw [← hW1]
    exact hA)
  obtain ⟨z0, z1, z2, z3, z4, z5⟩ := cells_6 hBk
  have HBL := Lib.hid hBl
  have HW1 := Lib.hid hW1
  clear HI hr he hn hv hi h hb2 hb3 hBk hBl hW1
  go_enter Tryz.func17, Tryz.ntmps17
  go_wp2_with fail
  rw [HW1.out]
  go_loop [5] (fun i => ∃ k : Nat, k ≤ n ∧ i = .int .i64 k ∧ Hid ((l.take k).all (fun t => shortS t.s) = true)) (fun i => n - (intOf i).toNat)
  case atStart => exact ⟨0, Nat.zero_le _, rfl, Lib.hid rfl⟩
  case round =>
    obtain ⟨k, hk, rfl, HO⟩ := hrel
    by_cases hlt : k < n
    · obtain ⟨t, ht⟩ : ∃ t, l[k]? = some t := get_some (by have := HN.out; omega)
      obtain ⟨b, off, rfl, hb, c0, c1, c2⟩ := HT.out.at_ ht
      have HX := Lib.hid ht
      have hlt' : (k : Int) < n := by omega
      clear ht c0 c1
      by_cases hs : t.s.size ≤ 100
      · have HS : Hid (shortS t.s = true) := Lib.hid (by simp [shortS, hs])
        have gs : ¬ 100 < (t.s.size : Int) := by omega
        go_wp2_with fail
        go_round
        case rel => exact ⟨k + 1, by omega, by go_num, Lib.hid (all_next' HX.out HS.out HO.out)⟩
        case measure => simp [intOf]; omega
      · have HS : Hid (shortS t.s = false) := Lib.hid (by simp [shortS]; omega)
        have gs : 100 < (t.s.size : Int) := by omega
        clear hs
        go_wp2_with fail
        go_ret
        exact ⟨ret_bool (by rw [HR.out, all_stop' HX.out HS.out]; simp), HBL.out⟩
    · have HL : Hid (l.all (fun t => shortS t.s) = true) := Lib.hid (all_end' (by have := HN.out; omega) HO.out)
      clear HO
      have hge : ¬ (k : Int) < n := by omega
      go_wp2_with fail
      go_loop [6] (fun i => ∃ k : Nat, k ≤ im ∧ i = .int .i64 k ∧ Hid ((ins.take k).all shortS = true)) (fun i => im - (intOf i).toNat)
      case atStart => exact ⟨0, Nat.zero_le _, rfl, Lib.hid rfl⟩
      case round =>
        obtain ⟨j, hj, rfl, HO⟩ := hrel
        by_cases hlt2 : j < im
        · obtain ⟨s, hs0⟩ : ∃ s, ins[j]? = some s := get_some (by have := HIN.out; omega)
          obtain ⟨b, off, rfl, hb, hcell⟩ := HI'.out (by omega)
          have c0 := hcell j s hs0
          have HX := Lib.hid hs0
          have hlt' : (j : Int) < im := by omega
          clear hs0 hcell
          by_cases hs : s.size ≤ 100
          · have HS : Hid (shortS s = true) := Lib.hid (by simp [shortS, hs])
            have gs : ¬ 100 < (s.size : Int) := by omega
            go_wp2_with fail
            go_round
            case rel => exact ⟨j + 1, by omega, by go_num, Lib.hid (all_next' HX.out HS.out HO.out)⟩
            case measure => simp [intOf]; omega
          · have HS : Hid (shortS s = false) := Lib.hid (by simp [shortS]; omega)
            have gs : 100 < (s.size : Int) := by omega
            clear hs
            go_wp2_with fail
            go_ret
            exact ⟨ret_bool (by rw [HR.out, all_stop' HX.out HS.out]; simp), HBL.out⟩
        · have HL2 : Hid (ins.all shortS = true) := Lib.hid (all_end' (by have := HIN.out; omega) HO.out)
          clear HO
          have hge2 : ¬ (j : Int) < im := by omega
          go_wp2_with fail
          go_loop [7] (fun i => ∃ k : Nat, k ≤ vn ∧ i = .int .i64 k ∧ Hid ((vars.take k).all (fun v => shortS v.s) = true)) (fun i => vn - (intOf i).toNat)
          case atStart => exact ⟨0, Nat.zero_le _, rfl, Lib.hid rfl⟩
          case round =>
            obtain ⟨m, hm, rfl, HO⟩ := hrel
            by_cases hlt3 : m < vn
            · obtain ⟨v, hv0⟩ : ∃ v, vars[m]? = some v := get_some (by have := HVN.out; omega)
              obtain ⟨b, off, rfl, hb, c0, -, -, -⟩ := HV.out.at_ hv0
              have HX := Lib.hid hv0
              have hlt' : (m : Int) < vn := by omega
              clear hv0
              by_cases hs : v.s.size ≤ 100
              · have HS : Hid (shortS v.s = true) := Lib.hid (by simp [shortS, hs])
                have gs : ¬ 100 < (v.s.size : Int) := by omega
                go_wp2_with fail
                go_round
                case rel => exact ⟨m + 1, by omega, by go_num, Lib.hid (all_next' (f := fun v : Vr => shortS v.s) HX.out HS.out HO.out)⟩
                case measure => simp [intOf]; omega
              · have HS : Hid (shortS v.s = false) := Lib.hid (by simp [shortS]; omega)
                have gs : 100 < (v.s.size : Int) := by omega
                clear hs
                go_wp2_with fail
                go_ret
                exact ⟨ret_bool (by rw [HR.out, all_stop' (f := fun v : Vr => shortS v.s) HX.out HS.out]; simp), HBL.out⟩
            · have HL3 : Hid (vars.all (fun v => shortS v.s) = true) := Lib.hid (all_end' (by have := HVN.out; omega) HO.out)
              clear HO
              have hge3 : ¬ (m : Int) < vn := by omega
              go_wp2_with fail
              go_ret
              exact ⟨ret_bool (by rw [HR.out, HL.out, HL2.out, HL3.out]; rfl), HBL.out⟩
theorem elight_any (p : EP) (e : Ev) (A : Option Addr) (n c : Nat) (l : List Tm) (hn : n = l.length) (w : World) (h : Tms w (.slice A n c) l) (he : EnvIn w p e) :
    Calls Tryz.prog 17 #[.slice A n c, envV p e] w (RetB w (lightE e l)) := by
  by_cases hb : n ≤ 60 ∧ e.vars.length ≤ 20 ∧ e.ins.length ≤ 80
  · exact light_few' p e A n c l hn w h he hb
  · exact light_big p e A n c l hn w he (by omega)
end Go.Proofs.YtobpcpfomdblgaaGreatDoor

namespace Go.Proofs.YtobpcpfomdblgaaGreatDoor
open Go.RowKit TermSpec EvalSpec ActSpec NamesSpec
set_option maxRecDepth 100000

abbrev noP : EP := ⟨none, 0, 0, none, 0, 0⟩
abbrev noE : Ev := ⟨[], 0, 0, 0, 0, []⟩
theorem no_env (w : World) : EnvIn w noP noE := ⟨⟨rfl, Rdk.nil 4 w⟩, Rd.nil w, by decide, by decide⟩
def lightOne (a : Ac) : Bool := shortS a.s && lightE noE a.x
def lightA (l : List Ac) : Bool := decide (l.length < 20) && l.all lightOne
theorem lightA_parts {l : List Ac} (h : lightA l = true) : l.length < 20 ∧ ∀ a ∈ l, a.s.size ≤ 100 ∧ a.x.length ≤ 60 ∧ ∀ t ∈ a.x, t.s.size ≤ 100 := by
  unfold lightA at h
  simp only [Bool.and_eq_true, decide_eq_true_eq, List.all_eq_true] at h
  refine ⟨h.1, fun a ha => ?_⟩
  have := h.2 a ha
  unfold lightOne at this
  rw [Bool.and_eq_true] at this
  obtain ⟨h1, _, _, h2⟩ := light_parts this.2
  exact ⟨by simpa [shortS] using this.1, h1, h2⟩
theorem lightA_bad {l : List Ac} {k : Nat} {a : Ac} (h : l[k]? = some a) (h1 : lightOne a = false) : lightA l = false := by unfold lightA; rw [all_stop' h h1]; simp
def LightARel (W : World) (l : List Ac) (n : Nat) (i : Value) (wr : World) : Prop := ∃ k : Nat, k ≤ n ∧ k ≤ 20 ∧ i = .int .i64 k ∧ (l.take k).all lightOne = true ∧ Below W.heap.size W wr
set_option maxHeartbeats 1000000 in
theorem lightA_any (A : Option Addr) (n c : Nat) (l : List Ac) (hs : ∀ a ∈ l, a.s.size ≤ 9223372036854775807) (w : World) (h : Acs w (.slice A n c) l) :
    Calls Tryz.prog 18 #[.slice A n c] w (RetB w (lightA l)) := by
  have hn := h.len.1
  have hcap := h.len.2
  have HN := Lib.hid hn
  have HT := Lib.hid h
  have HS := Lib.hid hs
  obtain ⟨r, hr⟩ : ∃ r, r = lightA l := ⟨_, rfl⟩
  rw [← hr]
  have HR := Lib.hid hr
  clear hn h hs hr
  go_enter Tryz.func18, Tryz.ntmps18
  go_wp2_with fail
  go_loopw [3] (fun i wr => LightARel w l n i wr) (fun i _ => n - (intOf i).toNat)
  case atStart => exact ⟨0, Nat.zero_le _, Nat.zero_le _, rfl, rfl, Below.refl _ _⟩
  case round =>
    obtain ⟨k, hk, hk20, rfl, hall, hbw⟩ := hrel
    have HA := Lib.hid hall
    have HB := Lib.hid hbw
    clear hall hbw
    by_cases hlt : k < n
    · have hkI : (k : Int) < n := by omega
      by_cases h20 : k < 20
      · have h20I : (k : Int) < 20 := by omega
        obtain ⟨a, ha⟩ : ∃ a, l[k]? = some a := get_some (by rw [← HN.out]; exact hlt)
        obtain ⟨b, off, xA, xn, xc, rfl, hb, htm, c0, c1, c2⟩ := (HT.out.keep HB.out).at_ ha
        obtain ⟨xA', xn', xc', heq, hxn, hxc⟩ := htm.shape
        cases heq
        have HC : Hid (Calls Tryz.prog 17 #[.slice xA xn xc, .agg #[.slice none 0 0, .int .i64 0, .int .i64 0, .int .i64 0, .int .i64 0, .slice none 0 0]] wr (RetB wr (lightE noE a.x))) := Lib.hid (elight_any noP noE xA xn xc a.x hxn wr htm (no_env wr))
        have HNX := Lib.hid (fun h1 => all_next' ha (f := lightOne) h1 HA.out)
        have HST := Lib.hid (fun h1 => lightA_bad ha h1)
        have HO : Hid (lightOne a = (decide (a.s.size ≤ 100) && lightE noE a.x)) := Lib.hid rfl
        have hsz := HS.out a (List.mem_of_getElem? ha)
        obtain ⟨q, hq⟩ : ∃ q, q = lightE noE a.x := ⟨_, rfl⟩
        rw [← hq] at HC HO
        clear ha hq htm hxn hxc
        obtain ⟨s, any, x⟩ := a
        simp only at c0 c1 c2 HC hsz HO
        by_cases hs1 : 100 < s.size
        · have HST' := Lib.hid (HST.out (by rw [HO.out]; simp; omega))
          have g : decide (100 < (s.size : Int)) = true := by simp; omega
          clear HNX HST
          go_wp2_with fail
          go_ret
          exact ⟨ret_bool (by rw [HR.out, HST'.out]), HB.out⟩
        · have g : decide (100 < (s.size : Int)) = false := by simp; omega
          rcases hq : q with _ | _
          · rw [hq] at HC
            have HST' := Lib.hid (HST.out (by rw [HO.out, hq]; simp))
            clear HNX HST hq HO
            go_wp2_with (go_at_call 17; (with_reducible refine HC.out.mono ?_))
            rintro e2 w2 ⟨rfl, hb2⟩
            have HB2 := Lib.hid (below_two' HB.out hb2)
            clear hb2
            go_wp2_with fail
            go_ret
            exact ⟨ret_bool (by rw [HR.out, HST'.out]), HB2.out⟩
          · rw [hq] at HC
            have HNX' := Lib.hid (HNX.out (by rw [HO.out, hq]; simp; omega))
            clear HNX HST hq HO
            go_wp2_with (go_at_call 17; (with_reducible refine HC.out.mono ?_))
            rintro e2 w2 ⟨rfl, hb2⟩
            have HB2 := Lib.hid (below_two' HB.out hb2)
            clear hb2
            go_wp2_with fail
            go_roundw
            case rel => exact ⟨k + 1, by omega, by omega, by go_num, HNX'.out, HB2.out⟩
            case measure => simp [intOf]; omega
      · have h20I : ¬ (k : Int) < 20 := by omega
        have HE : Hid (r = false) := Lib.hid (by rw [HR.out]; unfold lightA; rw [show decide (l.length < 20) = false by have := HN.out; simp; omega]; simp)
        have g : decide ((n : Int) < 20) = false := by simp; omega
        have g' : decide (n < 20) = false := by simp; omega
        go_wp2_with fail
        go_ret
        exact ⟨ret_bool HE.out.symm, HB.out⟩
    · have hkI : ¬ (k : Int) < n := by omega
      have HE : Hid (r = decide (n < 20)) := Lib.hid (by
        have h1 := HA.out
        have h2 := HN.out
        rw [List.take_of_length_le (by omega)] at h1
        rw [HR.out]; unfold lightA; rw [h1, h2]; simp)
      go_wp2_with fail
      go_ret
      exact ⟨ret_bool (by rw [HE.out]; simp; omega), HB.out⟩
end Go.Proofs.YtobpcpfomdblgaaGreatDoor
