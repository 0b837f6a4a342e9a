/- ExprRefParse, joined. -/
import Derived.Test.YtffdfajlfgeicaaDoorMExprRefAll
import Derived.Test.YtffdfajlfgeicaaDoorMExprRefRead
import Derived.Test.YtffdfajlfgeicaaDoorMExprParse
import Derived.Test.YtffdfajlfgeicaaDoorMScanA
namespace Go.Proofs.YtffdfajlfgeicaaDoor
open Go.RowKit CurSpec TermSpec ExprSpec NamesSpec ScanSpec
set_option maxRecDepth 100000

theorem tms_new {x y z : World} {A : Option Addr} {n cp : Nat} {l : List Tm} (h : Tms x (.slice A n cp) l) (hb : Below x.heap.size x y) (hg : y.grownBy z (some x.heap.size)) : Tms z (.slice A n cp) l := by
  obtain ⟨m, hm, A', c', heq, hc, hl, hA⟩ := h
  cases heq
  refine ⟨n, hm, A, cp, rfl, hc, hl, fun h0 => ?_⟩
  obtain ⟨b, off, rfl, hlt, hcell⟩ := hA h0
  have hz := hb.size
  have hz2 := hg.size
  refine ⟨b, off, rfl, by omega, fun j u hj => ?_⟩
  rw [← hcell j u hj]
  have := (hg.block b (by omega) (by simp; omega)).trans (hb.block b hlt)
  simp [World.cell?, this]
set_option maxHeartbeats 8000000 in
theorem rparse_any (s : ByteArray) (w : World) (hz : s.size ≤ 9223372036854775800) :
    Calls Tryd.prog 9 #[.string s] w (RetParse w (parseP s)) := by
  have HT := Lib.hid (rtoks_any s w hz)
  have HZ := Lib.hid hz
  clear hz
  by_cases he : (scanT s.data.toList).2.2 = 0
  · have HP : Hid (parseP s = endP (readP ((tkAll s).length + 1) (cur0 (tkAll s)))) := Lib.hid (if_neg (fun h => h he))
    have HE := Lib.hid he
    clear he
    go_enter Tryd.func9, Tryd.ntmps9
    go_wp2_with (go_at_call 22; (with_reducible refine HT.out.mono ?_))
    rintro e x1 ⟨hb1, -, hv⟩
    obtain ⟨v, rfl, hvv⟩ := hv HE.out
    clear hv
    obtain ⟨A, cp, rfl, hrest⟩ := hvv
    obtain ⟨n, hn⟩ : ∃ n, n = (scanT s.data.toList).1.length := ⟨_, rfl⟩
    rw [← hn] at hrest ⊢
    have hT : Toks x1 (.slice A n cp) (tkAll s) := ⟨n, by rw [hn]; simp [tkAll], A, cp, rfl, hrest.1, by rw [show tkAll s = (scanT s.data.toList).1.map (tokOf s) from rfl, ← toks_map]; exact hrest.2.1, by rw [show tkAll s = (scanT s.data.toList).1.map (tokOf s) from rfl, ← toks_map]; exact hrest.2.2⟩
    have HX1 := Lib.hid hT
    have HB1 := Lib.hid (hb1.alloc hb1.size (.cells #[.int .i64 0, .int .i64 0] 31))
    obtain ⟨r, hr⟩ : ∃ r, r = readP ((tkAll s).length + 1) (cur0 (tkAll s)) := ⟨_, rfl⟩
    have HRD : Hid (Calls Tryd.prog 13 #[.agg #[.slice A n cp, .int .i64 0, .int .i64 0, .int .i64 0, .int .i64 0, .int .i64 0]] (x1.alloc (.cells #[.int .i64 0, .int .i64 0] 31)) (RetLev x1 (x1.alloc (.cells #[.int .i64 0, .int .i64 0] 31)) (cur0 (tkAll s)) r)) := Lib.hid (by
      rw [hr]
      exact rread_say ((tkAll s).length + 1) (cur0 (tkAll s)) (lev_all _ 1 (by decide) (by decide)) (tkAll_ok s (by have := HZ.out; omega)) (fit_all (tkAll s)) (by have := tkAll_len s; exact Nat.le_trans this (by decide)) A n cp x1 _ hT ((Below.refl _ _).alloc (Nat.le_refl _) _))
    have HR := Lib.hid hr
    obtain ⟨d, hdd⟩ : ∃ d, d = want r.1 0 ⟨#[]⟩ := ⟨_, rfl⟩
    have HD := Lib.hid hdd
    clear hb1 hrest hn hT hr
    go_wp2_with (go_at_call 13; (with_reducible refine HRD.out.mono ?_))
    rintro e x3 ⟨A3, n3, cp3, Av, nv, cv, x, rfl, hT3, hM3, ho3, hx3, hl3, hb3⟩
    have HW := Lib.hid (want_say r.1 0 ⟨#[]⟩ A3 n3 cp3 x1 (x3.alloc (rcO A3 n3 cp3 r.1)) hT3 ((((Below.refl _ _).alloc (Nat.le_refl _) _).trans (hb3.mono (by simp))).alloc (Nat.le_trans (by simp) hb3.size) _))
    rw [← hdd] at HW
    have hnv : nv = x.length := by obtain ⟨A', n', c', heq, hn', _⟩ := hM3.shape; cases heq; exact hn'
    have HL3 := Lib.hid (And.intro hM3 (And.intro ho3 (And.intro hx3 hnv)))
    have HB3 := Lib.hid (below_two' HB1.out hb3)
    have HK3 := Lib.hid (heap_alloc_new x3 (rcO A3 n3 cp3 r.1))
    clear hdd hT3 hM3 ho3 hx3 hl3 hb3 hnv
    go_wp2_with (go_at_call 23; (with_reducible refine HW.out.mono ?_))
    rintro e x4 ⟨A4, n4, cp4, rfl, -, hb4⟩
    have k4 := block_on HK3.out hb4
    have HK4 := Lib.hid (rr_block k4 (.slice A4 n4 cp4) (.int .i64 d.w1) (.int .i64 d.w2) (.int .i64 d.a1) (.int .i64 d.a2) (.int .i64 d.bad))
    obtain ⟨b0, b1, b2, b3, b4, b5⟩ := cells_6 k4
    obtain ⟨f0, f1, f2, f3, f4, f5⟩ := free_6 k4
    have hbx : Below x3.heap.size x3 x4 := ((Below.refl _ _).alloc (Nat.le_refl _) _).trans (hb4.mono (by simp))
    have HB4 := Lib.hid (below_six (below_two' HB3.out hbx) (b := x3.heap.size) HB3.out.size (.slice A4 n4 cp4) (.int .i64 d.w1) (.int .i64 d.w2) (.int .i64 d.a1) (.int .i64 d.a2) (.int .i64 d.bad))
    have HM4 := Lib.hid (tms_new HL3.out.1 hbx (but_six x4 x3.heap.size (.slice A4 n4 cp4) (.int .i64 d.w1) (.int .i64 d.w2) (.int .i64 d.a1) (.int .i64 d.a2) (.int .i64 d.bad)))
    obtain ⟨m0, m1, m2, m3, m4, m5⟩ := cells_6 HK4.out
    clear k4 hb4 hbx
    by_cases hd : d.bad = 0
    · have HQ : Hid (endP r = (r.2, 0)) := Lib.hid (if_neg (fun h => h (by rw [← HD.out]; exact hd)))
      have hr0 : r.1.bad = 0 := (isB_next (want_good (by rw [← HD.out]; exact hd)).1).1
      have HXR := Lib.hid (HL3.out.2.2.1 hr0)
      have e1 : (d.bad != 0) = false := by simpa using hd
      clear hd hr0
      go_wp2_with fail
      go_ret2
      rw [HP.out, ← HR.out, HQ.out]
      exact ⟨Av, nv, cv, rfl, by rw [← HXR.out]; exact HM4.out, by rw [← HXR.out]; exact HL3.out.2.2.2, HB4.out⟩
    · have HQ : Hid (endP r = ([], d.bad)) := Lib.hid (by rw [HD.out]; exact if_pos (by rw [← HD.out]; exact hd))
      have e1 : (d.bad != 0) = true := by simpa using hd
      clear hd
      go_wp2_with fail
      go_region
      all_goals
        go_wp2_with fail
        go_ret2
        rw [HP.out, ← HR.out, HQ.out]
        exact ⟨none, 0, 0, rfl, tmsNil _, rfl, HB4.out.drew⟩
  · have HP : Hid (parseP s = ([], (scanT s.data.toList).2.2)) := Lib.hid (if_pos he)
    have e1 : ((scanT s.data.toList).2.2 != 0) = true := by simpa using he
    have HE := Lib.hid he
    clear he
    go_enter Tryd.func9, Tryd.ntmps9
    go_wp2_with (go_at_call 22; (with_reducible refine HT.out.mono ?_))
    rintro e x1 ⟨hb1, hv, -⟩
    obtain rfl := hv HE.out
    have HB1 := Lib.hid hb1
    clear hb1 hv
    go_wp2_with fail
    go_ret2
    rw [HP.out]
    exact ⟨none, 0, 0, rfl, tmsNil _, rfl, HB1.out.alloc HB1.out.size _⟩
end Go.Proofs.YtffdfajlfgeicaaDoor
