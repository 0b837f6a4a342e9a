/- ExprWalks2, joined. -/
import Derived.Test.YtffdfajlfgeicaaDoorMExprWalks
namespace Go.Proofs.YtffdfajlfgeicaaDoor
open Go.RowKit CurSpec TermSpec ExprSpec ScanSpec
set_option maxRecDepth 100000

theorem Toks.text_ {w : World} {A : Option Addr} {n c : Nat} {l : List Tk} {i : Nat} {t : Tk} (h : Toks w (.slice A n c) l) (hi : l[i]? = some t) :
    ∃ b off, A = some ⟨b, off, none⟩ ∧ b < w.heap.size ∧ w.cell? ⟨b, off + i * 4 + 1, none⟩ = some (.string t.t) := by
  obtain ⟨m, hm, A', c', heq, hc, hl, hA⟩ := h
  cases heq
  have := get_lt hi
  obtain ⟨b, off, rfl, hb, hcell⟩ := hA (by omega)
  exact ⟨b, off, rfl, hb, by rw [Nat.add_assoc]; exact hcell _ _ (flat_get (j := 1) tkV_length hi (by omega))⟩
def RdsRel (W : World) (n : Nat) (v : Value) (w : World) : Prop := ∃ k : Nat, k ≤ n ∧ v = .int .i64 k ∧ Below W.heap.size W w
theorem readP_few (f : Nat) (c : Cur) : (readP f c).2.length ≤ 1000 := by
  unfold readP
  dsimp only
  split
  · split
    · rename_i h
      have := (tree_of h).choose_spec.2.2
      dsimp only
      omega
    · simp
  · simp

set_option maxHeartbeats 8000000 in
theorem walk_ExprReads (A : Option Addr) (n cp : Nat) (l : List Tk) (w : World) (hp : PairsIn w) (hs : SignsIn w) (h : Toks w (.slice A n cp) l) (hl : ∀ t ∈ l, t.t.size ≤ 9223372036854775807) (hn63 : n ≤ 9223372036854775807) :
    Calls Tryd.prog 4 #[.slice A n cp] w fun e w' => e = .returned (.bool true) ∧ Below w.heap.size w w' := by
  have HAw : Hid (∀ W, Below w.heap.size w W → Calls Tryd.prog 7 #[] W (RetB W true)) := Lib.hid (fun W hW => awake_any W (hp.keep hW) (hs.keep hW))
  have hnl : n = l.length := by obtain ⟨A', n', c', heq, hn'⟩ := h.shape; cases heq; exact hn'
  by_cases h150 : 150 < n
  · have h150' : (150 : Int) < (n : Int) := by omega
    clear h hl hs hp hnl
    go_enter Tryd.func4, Tryd.ntmps4
    go_wp2_with (go_at_call 7; (with_reducible refine (HAw.out w (Below.refl _ _)).mono ?_))
    rintro e w1 ⟨rfl, hb1⟩
    have HB := Lib.hid hb1
    clear hb1
    go_wp2_with fail
    go_ret
    exact ⟨rfl, HB.out⟩
  · have h150' : ¬ (150 : Int) < (n : Int) := by omega
    have HT := Lib.hid h
    have HN := Lib.hid hnl
    have HS := Lib.hid hs
    have ok : Ok (cur0 l) := fun t ht => hl t ht
    have HOK := Lib.hid ok
    have hn150 : n ≤ 150 := by omega
    clear h hl hs hp hnl ok h150 hn63
    go_enter Tryd.func4, Tryd.ntmps4
    go_wp2_with fail
    go_loopw [3] (fun v wr => RdsRel w n v wr) (fun v _ => n - (intOf v).toNat)
    case atStart => exact ⟨0, Nat.zero_le _, rfl, Below.refl _ _⟩
    case round =>
      obtain ⟨k, hk, rfl, hbw⟩ := hrel
      by_cases hlt : k < n
      · obtain ⟨t, ht⟩ : ∃ t, l[k]? = some t := get_some (by rw [← HN.out]; exact hlt)
        obtain ⟨b, off, rfl, hb, c1⟩ := (HT.out.keep hbw).text_ ht
        obtain ⟨s, hss⟩ : ∃ s, s = t.t := ⟨_, rfl⟩
        rw [← hss] at c1
        have hltI : (k : Int) < (n : Int) := by omega
        have HW := Lib.hid hbw
        clear ht hss hbw
        by_cases h100 : 100 < s.size
        · have g1 : (100 : Int) < (s.size : Int) := by omega
          go_wp2_with (go_at_call 7; (with_reducible refine (HAw.out _ HW.out).mono ?_))
          rintro e w1 ⟨rfl, hb1⟩
          have HB := Lib.hid (below_two' HW.out hb1)
          clear hb1
          go_wp2_with fail
          go_ret
          exact ⟨rfl, HB.out⟩
        · have g1 : ¬ (100 : Int) < (s.size : Int) := by omega
          go_wp2_with fail
          go_roundw
          case rel => exact ⟨k + 1, hlt, by simp, HW.out⟩
          case measure => simp [intOf]; omega
      · have hge : ¬ (k : Int) < (n : Int) := by omega
        have HT1 := Lib.hid (HT.out.keep hbw)
        have HB1 := Lib.hid hbw
        have HNEW := Lib.hid (new_any A n cp l wr HT1.out (by omega))
        clear hbw hlt
        go_wp2_with (go_at_call 11; (with_reducible refine HNEW.out.mono ?_))
        rintro e x2 ⟨B, rfl, hBs, hC2, hb2⟩
        have HB2 := Lib.hid (below_two' HB1.out hb2)
        have HBS := Lib.hid (Nat.le_trans HB1.out.size hBs)
        have HRD := Lib.hid (read_at B (cur0 l) (l.length + 1) x2 (HS.out.keep HB2.out) hC2 HOK.out (fit_all l))
        have HRR := Lib.hid (fun W (hW : Below w.heap.size w W) => rread_rr (l.length + 1) (cur0 l) (lev_all _ 1 (by decide) (by decide)) HOK.out (fit_all l) (by show l.length ≤ 100000; have := HN.out; omega) A n cp w W HT.out hW)
        have hfew := readP_few (l.length + 1) (cur0 l)
        obtain ⟨r, hr⟩ : ∃ r, r = readP (l.length + 1) (cur0 l) := ⟨_, rfl⟩
        rw [← hr] at HRD HRR hfew
        have HF := Lib.hid hfew
        have HRR' : Hid (∀ W, Below w.heap.size w W → Calls Tryd.prog 13 #[.agg #[.slice A n cp, .int .i64 0, .int .i64 0, .int .i64 0, .int .i64 0, .int .i64 0]] W (RetRR w W (cur0 l) r)) := Lib.hid HRR.out
        clear hBs hC2 hb2 hr hfew HRR
        go_wp2_with (go_at_call 12; (with_reducible refine HRD.out.mono ?_))
        rintro e x3 ⟨A3, n3, c3, rfl, hC3, hT3, hn3, hb3, hne3⟩
        have HB3 : Hid (Below w.heap.size w x3) := Lib.hid (HB2.out.trans ⟨hb3.os, hb3.tape, hb3.output, hb3.size, fun i hi => hb3.block i (Nat.lt_of_lt_of_le hi HB2.out.size) (by have := HBS.out; simp; omega)⟩)
        have H3 := Lib.hid (And.intro hC3 (And.intro hT3 hn3))
        clear hC3 hT3 hn3 hb3 hne3
        go_wp2_with (go_at_call 13; (with_reducible refine (HRR'.out _ HB3.out).mono ?_))
        rintro e x4 ⟨A4, n4, cp4, Av, nv, cv, rfl, hT4, hM4, -, -, hb4⟩
        have hnv : nv = r.2.length := by obtain ⟨A', n', c', heq, hn', _⟩ := hM4.shape; cases heq; exact hn'
        have HB4 := Lib.hid (below_two' HB3.out hb4)
        have H4 := Lib.hid (And.intro hT4 (And.intro hM4 hnv))
        have HC4 := Lib.hid (And.intro (H3.out.1.keep hb4) (H3.out.2.1.keep hb4))
        have HK4 := Lib.hid (heap_alloc_new x4 (rcO A4 n4 cp4 r.1))
        have hba : Below x4.heap.size x4 (x4.alloc (rcO A4 n4 cp4 r.1)) := (Below.refl _ _).alloc (Nat.le_refl _) _
        have HBA := Lib.hid hba
        have HFA := Lib.hid (fault_any _ _ _ _ (x4.alloc (rcO A4 n4 cp4 r.1)) (Fl.of (HC4.out.1.keep hba)))
        clear hT4 hM4 hb4 hba hnv
        go_wp2_with (go_at_call 14; (with_reducible refine HFA.out.mono ?_))
        rintro e x5 ⟨rfl, hb5⟩
        have HX5 := Lib.hid (HBA.out.trans (hb5.mono (by simp)))
        have HK5 := Lib.hid (block_on HK4.out hb5)
        have HP5 := Lib.hid (heap_alloc_new x5 (.cells #[.int .i64 r.1.a1, .int .i64 r.1.a2] 31))
        have hz5 := hb5.size
        rw [World.size_alloc] at hz5
        clear hb5
        go_wp2_with fail
        have HV : Hid (Below x4.heap.size x4 (x5.alloc (.cells #[.int .i64 r.1.a1, .int .i64 r.1.a2] 31))) := Lib.hid (HX5.out.alloc HX5.out.size _)
        have HKd := Lib.hid ((heap_alloc_old x5 (.cells #[.int .i64 r.1.a1, .int .i64 r.1.a2] 31) (by omega)).trans HK5.out)
        obtain ⟨V, hVe⟩ : ∃ V, V = x5.alloc (.cells #[.int .i64 r.1.a1, .int .i64 r.1.a2] 31) := ⟨_, rfl⟩
        rw [← hVe] at HV HKd HP5 ⊢
        have HBV := Lib.hid (below_two' HB4.out HV.out)
        have HSM := Lib.hid (fun W (hW : Below V.heap.size V W) => tmsame_any A3 Av n3 nv c3 cv r.2 W ((HC4.out.2.keep HV.out).keep hW) ((H4.out.2.1.keep HV.out).keep hW) H3.out.2.2 H4.out.2.2 (by have := HF.out; have := H3.out.2.2; omega))
        have HNX := Lib.hid (fun W (hW : Below V.heap.size V W) => next_at B r.1 W ((HC4.out.1.keep HV.out).keep hW))
        have HRN := Lib.hid (fun W (hW : Below V.heap.size V W) => next_say r.1 A4 n4 cp4 W (H4.out.1.keep (below_two' HBV.out hW)))
        have HA2 := Lib.hid (fun W (hW : Below V.heap.size V W) => HAw.out W (below_two' HBV.out hW))
        obtain ⟨tk, htk⟩ : ∃ tk, tk = next r.1 := ⟨_, rfl⟩
        rw [← htk] at HNX HRN
        obtain ⟨d, hd⟩ : ∃ d, d = r.1 := ⟨_, rfl⟩
        rw [← hd] at HRN HKd HP5 ⊢
        obtain ⟨d0, d1, d2, d3, d4, d5⟩ := cells_6 HKd.out
        obtain ⟨p0, p1⟩ := cells_2 HP5.out
        have hzd := (Array.getElem?_eq_some_iff.1 HKd.out).1
        have hzp := (Array.getElem?_eq_some_iff.1 HP5.out).1
        have HX0 := Lib.hid (Below.refl V.heap.size V)
        clear hVe htk hz5 hd
        go_region_held3 (fun w' => w'.cell? ⟨x4.heap.size, 0, none⟩ = some (.slice A4 n4 cp4) ∧ w'.cell? ⟨x4.heap.size, 1, none⟩ = some (.int .i64 d.w1) ∧ w'.cell? ⟨x4.heap.size, 2, none⟩ = some (.int .i64 d.w2) ∧ w'.cell? ⟨x4.heap.size, 3, none⟩ = some (.int .i64 d.a1) ∧ w'.cell? ⟨x4.heap.size, 4, none⟩ = some (.int .i64 d.a2) ∧ w'.cell? ⟨x4.heap.size, 5, none⟩ = some (.int .i64 d.bad) ∧ w'.cell? ⟨x5.heap.size, 0, none⟩ = some (.int .i64 d.a1) ∧ w'.cell? ⟨x5.heap.size, 1, none⟩ = some (.int .i64 d.a2)) (go_keep)
          ((first
            | (go_at_call 10; refine (HSM.out _ HX0.out.drew).mono ?_; rintro e y1 ⟨rfl, hb1'⟩; have hb1 := undrew hb1'; have HX1 := Lib.hid hb1; clear hb1'; obtain ⟨s0, s1, s2, s3, s4, s5⟩ := cells_6 (block_on HKd.out hb1); obtain ⟨s6, s7⟩ := cells_2 (block_on HP5.out hb1); clear hb1)
            | (go_at_call 15; refine (HNX.out _ HX1.out).mono ?_; rintro e y2 ⟨rfl, hb2⟩; have HX2 := Lib.hid (below_two' HX1.out hb2); clear hb2; obtain ⟨u0, u1, u2, u3, u4, u5⟩ := cells_6 (block_on HKd.out HX2.out); obtain ⟨u6, u7⟩ := cells_2 (block_on HP5.out HX2.out))
            | (go_at_call 16; refine (HRN.out _ HX2.out).mono ?_; rintro e y3 ⟨rfl, hb3⟩; have HX3 := Lib.hid (below_two' HX2.out hb3); clear hb3; obtain ⟨v0, v1, v2, v3, v4, v5⟩ := cells_6 (block_on HKd.out HX3.out); obtain ⟨v6, v7⟩ := cells_2 (block_on HP5.out HX3.out))
            | (go_at_call 7; refine (HA2.out _ HX3.out).mono ?_; rintro e y4 ⟨rfl, hb4⟩; have HX4 := Lib.hid (below_two' HX3.out hb4); clear hb4; obtain ⟨z0, z1, z2, z3, z4, z5⟩ := cells_6 (block_on HKd.out HX4.out); obtain ⟨z6, z7⟩ := cells_2 (block_on HP5.out HX4.out))))
        all_goals
          go_wp2_with fail
          go_ret
          exact ⟨rfl, below_two' HBV.out HX4.out⟩
end Go.Proofs.YtffdfajlfgeicaaDoor
