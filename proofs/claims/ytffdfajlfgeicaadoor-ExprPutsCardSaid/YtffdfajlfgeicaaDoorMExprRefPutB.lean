/- ExprRefPutB, joined. -/
import Derived.Test.YtffdfajlfgeicaaDoorMExprRefPut
import Derived.BigQuiet
namespace Go.Proofs.YtffdfajlfgeicaaDoor
open Go.RowKit CurSpec TermSpec ExprSpec Go.BigFrame
set_option maxRecDepth 100000

def RsgRel (W : World) (os : List Int) (o : Int) (s : ByteArray) (n : Nat) (p i : Value) (w : World) : Prop := ∃ j : Nat, j ≤ n ∧ i = .int .i64 j ∧ p = .string (if o ∈ os.take j then s else ⟨#[]⟩) ∧ Below W.heap.size W w
theorem rsg_no {os : List Int} {o u : Int} {j : Nat} {pv st : ByteArray} (hp : pv = if o ∈ os.take j then st else ⟨#[]⟩) (hu : os[j]? = some u) (hn : u ≠ o) : (.string pv : Value) = .string (if o ∈ os.take (j + 1) then st else ⟨#[]⟩) := by
  have hm : o ∈ os.take (j + 1) ↔ o ∈ os.take j := by
    rw [take_next hu, List.mem_append, List.mem_singleton]
    exact ⟨fun h => h.elim id (fun e => absurd e.symm hn), .inl⟩
  rw [hp]
  by_cases hx : o ∈ os.take j
  · rw [if_pos hx, if_pos (hm.2 hx)]
  · rw [if_neg hx, if_neg (fun h => hx (hm.1 h))]
theorem sg_same : ∀ s ∈ sgs, ∀ u ∈ sgs, s.op = u.op → s.t = u.t := by decide
theorem sig_text {k o : Int} {j : Nat} {s : Sg} (hs : s ∈ sgs) (ho : s.op = o) (h : (sigO k)[j]? = some o) : (sigT k)[j]? = some s.t := by
  unfold sigO at h
  unfold sigT
  rw [List.getElem?_map, Option.map_eq_some_iff] at h
  obtain ⟨u, hu, he⟩ := h
  have hm : u ∈ sgs := (List.mem_filter.1 (List.mem_of_getElem? hu)).1
  rw [List.getElem?_map, hu, Option.map_some, sg_same u hm s hs (he.trans ho.symm)]
theorem sig_len (k : Int) : (sigT k).length = (sigO k).length := by unfold sigT sigO; rw [List.length_map, List.length_map]

set_option maxHeartbeats 16000000 in
theorem rput_bin {o : Int} {x y : Ex} (h7 : ¬ (o = 7 ∨ o = 8)) (hg : ExprSpec.Good (.bin o x y)) (ihx : RPutOk x) (ihy : RPutOk y) : RPutOk (.bin o x y) := by
  intro A n c l a rest k w h hd
  have hsz : (bk (lev x < (sgOf o).left) (tx x)).size ≤ 60000 ∧ (bk (lev y < (sgOf o).right) (tx y)).size ≤ 60000 := by
    have h1 := tx_size hg.2.1
    have h1' := tx_size hg.2.2
    have h2 := congrArg List.length hd
    have h3 := h.few
    have h4 := h.len
    have h5 := bk_size (lev x < (sgOf o).left) (tx x)
    have h6 := bk_size (lev y < (sgOf o).right) (tx y)
    rw [show flat (.bin o x y) = opT o :: (flat x ++ flat y) from rfl, List.length_drop, List.length_append, List.length_cons, List.length_append] at h2
    omega
  obtain ⟨hsz1, hsz2⟩ := hsz
  obtain ⟨b, off, t', rfl, hb, hop, hal, hfew, ⟨r, hr⟩, c0, c1, c2, hbl, hlv⟩ := rx_first h hd hg
  rw [show opE (.bin o x y) = o from rfl] at hop
  have hal' : (a : Int) < n := by omega
  have ha0 : (0 : Int) ≤ (a : Int) := by omega
  have hd1 : l.drop (a + 1) = flat x ++ (flat y ++ rest) := by
    rw [← List.append_assoc]; exact drop_one (t := opT o) hd
  have hd2 : l.drop (a + 1 + (flat x).length) = flat y ++ rest := by
    rw [← List.drop_drop, hd1, List.drop_left]
  have hbl' : ∀ w', Below w.heap.size w w' → Calls Tryd.prog 35 #[.slice (some ⟨b, off, none⟩) n c, .int .i64 a] w' (RetInts w' [((a + 1 : Nat) : Int), ((a + 1 + (flat x).length : Nat) : Int)]) := by
    intro w' hw
    have := hbl w' hw
    rwa [show arN (opE (.bin o x y)) = 2 from by show (ar o).toNat = 2; rw [hg.1]; rfl, belows_2 (by rw [hd1]; exact cnt_more _ (flat_wf hg.2.1).1)] at this
  have HB := Lib.hid hbl'
  have HI := Lib.hid (fun W hW => ihx (some ⟨b, off, none⟩) n c l (a + 1) (flat y ++ rest) (sgOf o).left W (h.on hW) hd1)
  have HJ := Lib.hid (fun W hW => ihy (some ⟨b, off, none⟩) n c l (a + 1 + (flat x).length) rest (sgOf o).right W (h.on hW) hd2)
  rw [hop] at c0 hlv
  have elv : lev (.bin o x y) = (sgOf o).lev := if_neg h7
  rw [elv] at hlv
  have HT : Hid (tx (.bin o x y) = (((bk (lev x < (sgOf o).left) (tx x) ++ ⟨#[32]⟩) ++ (sgOf o).t) ++ ⟨#[32]⟩) ++ bk (lev y < (sgOf o).right) (tx y)) := Lib.hid (tx_bin h7 x y)
  obtain ⟨hm, hso⟩ := sgOf_mem hg.1 h7
  obtain ⟨sg, hsg⟩ : ∃ sg, sg = sgOf o := ⟨_, rfl⟩
  rw [← hsg] at HI HJ HT hlv elv hm hso hsz1 hsz2
  have hall := sgs_all sg hm
  have hsz3 : sg.t.size ≤ 3 := sg_size sg hm
  obtain ⟨lv, hlvv⟩ : ∃ lv, lv = sg.lev := ⟨_, rfl⟩
  rw [← hlvv] at hlv elv hall
  have HLV : Hid (∀ w', Calls Tryd.prog 34 #[.int .i64 o] w' (RetI w' lv)) := Lib.hid hlv
  have HBK : Hid (∀ X, tx (.bin o x y) = X → bk (lev (.bin o x y) < k) (tx (.bin o x y)) = if lv < k then (⟨#[40]⟩ ++ X) ++ ⟨#[41]⟩ else X) := Lib.hid (fun X hX => by subst hX; rw [elv]; rfl)
  have hO : o ∈ sigO lv := by rw [← hso]; exact sig_all hm hlvv.symm
  have hTJ : ∀ j, (sigO lv)[j]? = some o → (sigT lv)[j]? = some sg.t := fun j hj => sig_text hm hso hj
  have HSG := Lib.hid (fun w => signs_say lv w)
  have hln := sig_len lv
  have hfew' := sig_few lv
  have hq1 : (lv = 4 ∧ sg.left = 5) ∨ (lv ≠ 4 ∧ sg.left = lv) := by
    have := hall.2.1
    unfold first at this
    split at this
    · exact .inl ⟨by assumption, this⟩
    · exact .inr ⟨by assumption, this⟩
  have hq2 : sg.right = lv + 1 := hall.1
  have hlv8 : 1 ≤ lv ∧ lv < 8 := by omega
  rw [hq2] at HJ HT hsz2
  obtain ⟨os, hos⟩ : ∃ os, os = sigO lv := ⟨_, rfl⟩
  obtain ⟨ts, hts⟩ : ∃ ts, ts = sigT lv := ⟨_, rfl⟩
  have HSG' : Hid (∀ w, Calls Tryd.prog 37 #[.int .i64 lv] w fun e w' => ∃ v1 v2, e = .returned (.tuple #[v1, v2]) ∧ Rd w' v1 (strV ts) ∧ Rd w' v2 (intV os) ∧ Below w.heap.size w w') := Lib.hid (fun w => (HSG.out w).mono fun e w' ⟨v1, v2, he, h1, h2, _, _, h3⟩ => ⟨v1, v2, he, by rw [hts]; exact h1, by rw [hos]; exact h2, h3⟩)
  rw [← hos] at hO hTJ hln hfew'
  rw [← hts] at hTJ hln
  have HTJ := Lib.hid (And.intro hO hTJ)
  have HLN := Lib.hid hln
  have hn11 : os.length ≤ 11 := hfew'
  obtain ⟨p, hp⟩ : ∃ p : Nat, p = a + 1 := ⟨_, rfl⟩
  obtain ⟨q, hq⟩ : ∃ q : Nat, q = a + 1 + (flat x).length := ⟨_, rfl⟩
  rw [← hq] at HB HJ
  rw [← hp] at HB HI
  obtain ⟨sx, hsx⟩ : ∃ sx, sx = bk (lev x < sg.left) (tx x) := ⟨_, rfl⟩
  obtain ⟨sy, hsy⟩ : ∃ sy, sy = bk (lev y < lv + 1) (tx y) := ⟨_, rfl⟩
  rw [← hsx] at HI HT hsz1
  rw [← hsy] at HJ HT hsz2
  obtain ⟨st, hst⟩ : ∃ st, st = sg.t := ⟨_, rfl⟩
  rw [← hst] at HT HTJ hsz3
  obtain ⟨lf, hlf⟩ : ∃ lf, lf = sg.left := ⟨_, rfl⟩
  rw [← hlf] at HI hq1
  obtain ⟨nn, hnn⟩ : ∃ nn, nn = t'.n := ⟨_, rfl⟩
  obtain ⟨ss, hss⟩ : ∃ ss, ss = t'.s := ⟨_, rfl⟩
  rw [← hnn] at c1
  rw [← hss] at c2
  have h0 : ¬ (o = 1 ∨ o = 2 ∨ o = 9 ∨ o = 10 ∨ o = 11 ∨ o = 12 ∨ o = 3) := by
    rintro (rfl | rfl | rfl | rfl | rfl | rfl | rfl) <;> exact absurd hg.1 (by decide)
  have e1 : (o == 1) = false := by simp; omega
  have e3 : (o == 9) = false := by simp; omega
  have e4 : (o == 10) = false := by simp; omega
  have e5 : (o == 11) = false := by simp; omega
  have e6 : (o == 7) = false := by simp; omega
  have e7 : (o == 8) = false := by simp; omega
  have e8 : (o == 12) = false := by simp; omega
  have e9 : (o == 3) = false := by simp; omega
  have g8 : decide (lv < 8) = true := by simpa using hlv8.2
  have gw : IntKind.i64.wrap (lv + 1) = lv + 1 := IntWalk.i64_in _ (by omega)
  obtain ⟨hlv1, hlv2⟩ := hlv8
  clear h hd hop hr hbl hbl' hlv hg ihx ihy hd1 hd2 hp hq hsx hsy hnn hss h7 h0 hall hso hm hsg hlvv hos hts hst hlf hq2 elv hln hfew' hO hTJ HSG
  rcases hq1 with ⟨h4, rfl⟩ | ⟨h4, hq⟩
  · have g4 : (lv == 4) = true := by simpa using h4
    clear h4
    by_cases hk : lv < k
    · have HF : Hid (bk (lev (.bin o x y) < k) (tx (.bin o x y)) = (⟨#[40]⟩ ++ ((((sx ++ ⟨#[32]⟩) ++ st) ++ ⟨#[32]⟩) ++ sy)) ++ ⟨#[41]⟩) := Lib.hid (by rw [HBK.out _ HT.out, if_pos hk])
      rw [HF.out]
      have gk : decide (lv < k) = true := by simpa using hk
      clear HF HBK HT
      go_enter Tryd.func19, Tryd.ntmps19
      go_wp2_with (go_at_call 34; (with_reducible refine (HLV.out _).mono ?_))
      rintro e w1 ⟨rfl, hb1⟩
      have hk1 := block_on (heap_alloc_new w (.cells #[.int .i64 o, .int .i64 nn, .string ss] 52)) hb1
      have HB1 := Lib.hid (((Below.refl _ _).alloc (Nat.le_refl _) (.cells #[.int .i64 o, .int .i64 nn, .string ss] 52)).trans (hb1.mono (by simp)))
      obtain ⟨p0, p1, p2⟩ := cells_3 hk1
      have HK1 := Lib.hid hk1
      clear hb1 hk1 c0 c1 c2
      go_wp2_with (go_at_call 35; (with_reducible refine (HB.out _ HB1.out).mono ?_))
      rintro e w2 ⟨v, rfl, hr2, hb2⟩
      have HZ := Lib.hid (below_two' HB1.out hb2)
      have hk2 := block_on HK1.out hb2
      have HK2 := Lib.hid hk2
      clear p0 p1 p2 hb2
      obtain ⟨y0, y1, y2⟩ := cells_3 hk2
      clear hk2
      obtain ⟨bR, oR, cR, rfl, hbR, r0, r1⟩ := row_2 hr2
      clear hr2
      go_wp2_with (go_at_call 37; (with_reducible refine (HSG'.out _).mono ?_))
      rintro e w3 ⟨v1, v2, rfl, hr3, hr4, hb3⟩
      obtain ⟨A1, m1, d1, rfl, hm1, hd1, hA1⟩ := hr3.strs
      obtain ⟨A2, m2, d2, rfl, hm2, hd2, hA2⟩ := hr4.ints
      have HA1 := Lib.hid hA1
      have HA2 := Lib.hid hA2
      have HM := Lib.hid (And.intro hm1 hm2)
      have HZ3 := Lib.hid (below_two' HZ.out hb3)
      have HK3 := Lib.hid (block_on HK2.out hb3)
      have R0 := Lib.hid ((hb3.cell (p := ⟨bR, oR, none⟩) hbR).trans r0)
      have R1 := Lib.hid ((hb3.cell (p := ⟨bR, oR + 1, none⟩) hbR).trans r1)
      have hbR3 : bR < w3.heap.size := Nat.lt_of_lt_of_le hbR hb3.size
      have hm11 : m2 ≤ 11 := by omega
      clear hr3 hr4 hA1 hA2 hm1 hm2 hd1 hd2 hb3 y0 y1 y2 r0 r1 hbR hn11
      go_wp2_with fail
      go_loopw [13, 14] (fun p i wr => RsgRel w3 os o st m2 p i wr) (fun _ i _ => m2 - (intOf i).toNat)
      case atStart => exact ⟨0, Nat.zero_le _, rfl, by simp, Below.refl _ _⟩
      case round =>
        obtain ⟨j, hj, rfl, rfl, hbw⟩ := hrel
        have HW := Lib.hid hbw
        obtain ⟨pv, hpv⟩ : ∃ pv, pv = (if o ∈ os.take j then st else (⟨#[]⟩ : ByteArray)) := ⟨_, rfl⟩
        rw [← hpv]
        have HPV := Lib.hid hpv
        clear hpv
        obtain ⟨y0, y1, y2⟩ := cells_3 (block_on HK3.out hbw)
        clear hbw
        by_cases hlt : j < m2
        · obtain ⟨b2, f2, rfl, hb2, hcell2⟩ := HA2.out (by omega)
          obtain ⟨u, hu⟩ : ∃ u, os[j]? = some u := get_some (by rw [HM.out.2]; exact hlt)
          have c0 := (HW.out.cell (p := ⟨b2, f2 + j, none⟩) hb2).trans (hcell2 j u hu)
          have HU := Lib.hid hu
          have hltI : (j : Int) < (m2 : Int) := by omega
          have hm12 : m1 = m2 := by have h1 := HM.out.1; have h2 := HM.out.2; have h3 := HLN.out; omega
          subst hm12
          clear hu hcell2
          by_cases he : u = o
          · have g1 : (u == o) = true := by simpa using he
            have hT := HTJ.out.2 j (by rw [← he]; exact HU.out)
            obtain ⟨b1, f1, rfl, hb1, hcell1⟩ := HA1.out (by omega)
            have s0 := (HW.out.cell (p := ⟨b1, f1 + j, none⟩) hb1).trans (hcell1 j _ hT)
            have HE := Lib.hid he
            clear hT hcell1 he
            go_wp2_with fail
            go_big_quiet (fail)
            go_wp2_with fail
            go_roundw
            case rel => exact ⟨j + 1, hlt, by simp, by rw [if_pos (by rw [take_next HU.out, HE.out]; simp)], below_drewN HW.out _⟩
            case measure => simp [intOf]; omega
          · have g1 : (u == o) = false := by simpa using he
            have HE := Lib.hid he
            clear he
            go_wp2_with fail
            go_big_quiet (fail)
            go_wp2_with fail
            go_roundw
            case rel => exact ⟨j + 1, hlt, by simp, rsg_no HPV.out HU.out HE.out, below_drewN HW.out _⟩
            case measure => simp [intOf]; omega
        · obtain rfl : j = m2 := by omega
          have hge : ¬ (j : Int) < (j : Int) := by omega
          have hin : pv = st := HPV.out.trans (if_pos (by rw [List.take_of_length_le (by rw [HM.out.2]; exact Nat.le_refl _)]; exact HTJ.out.1))
          rw [hin]
          have q0 := (HW.out.cell (p := ⟨bR, oR, none⟩) hbR3).trans R0.out
          have q1 := (HW.out.cell (p := ⟨bR, oR + 1, none⟩) hbR3).trans R1.out
          have hbR4 := Nat.lt_of_lt_of_le hbR3 HW.out.size
          have HZ4 := Lib.hid (below_two' HZ3.out HW.out)
          have z0 : ¬ 9223372036854775807 < sx.size + 1 := by omega
          have z1 : ¬ 9223372036854775807 < sx.size + 1 + st.size := by omega
          have z2 : ¬ 9223372036854775807 < sx.size + 1 + st.size + 1 := by omega
          have z3 : ¬ 9223372036854775807 < sx.size + 1 + st.size + 1 + sy.size := by omega
          clear hin hbR3 hlt
          go_wp2_with fail
          go_region_held3 (fun w' => w'.cell? ⟨bR, oR, none⟩ = some (.int .i64 p) ∧ w'.cell? ⟨bR, oR + 1, none⟩ = some (.int .i64 q)) (go_keep)
            ((first
              | (go_at_call 19; (with_reducible refine (HI.out _ HZ4.out.drew).mono ?_); rintro e w5 ⟨rfl, hb5'⟩; have hb5 := undrew hb5'; have HZ5 := Lib.hid (below_two' HZ4.out hb5); have e0 := (hb5.cell (p := ⟨bR, oR, none⟩) hbR4).trans q0; have e1' := (hb5.cell (p := ⟨bR, oR + 1, none⟩) hbR4).trans q1; have hbR5 := Nat.lt_of_lt_of_le hbR4 hb5.size; clear hb5 hb5')
              | (go_at_call 19; (with_reducible refine (HJ.out _ HZ5.out).mono ?_); rintro e w6 ⟨rfl, hb6⟩; have HZ6 := Lib.hid (below_two' HZ5.out hb6); have u0 := (hb6.cell (p := ⟨bR, oR, none⟩) hbR5).trans e0; have u1 := (hb6.cell (p := ⟨bR, oR + 1, none⟩) hbR5).trans e1'; clear hb6)))
          all_goals
            go_wp2_with fail
            go_ret
            exact ⟨rfl, HZ6.out⟩
    · have HF : Hid (bk (lev (.bin o x y) < k) (tx (.bin o x y)) = (((sx ++ ⟨#[32]⟩) ++ st) ++ ⟨#[32]⟩) ++ sy) := Lib.hid (by rw [HBK.out _ HT.out, if_neg hk])
      rw [HF.out]
      have gk : decide (lv < k) = false := by simpa using hk
      clear HF HBK HT
      go_enter Tryd.func19, Tryd.ntmps19
      go_wp2_with (go_at_call 34; (with_reducible refine (HLV.out _).mono ?_))
      rintro e w1 ⟨rfl, hb1⟩
      have hk1 := block_on (heap_alloc_new w (.cells #[.int .i64 o, .int .i64 nn, .string ss] 52)) hb1
      have HB1 := Lib.hid (((Below.refl _ _).alloc (Nat.le_refl _) (.cells #[.int .i64 o, .int .i64 nn, .string ss] 52)).trans (hb1.mono (by simp)))
      obtain ⟨p0, p1, p2⟩ := cells_3 hk1
      have HK1 := Lib.hid hk1
      clear hb1 hk1 c0 c1 c2
      go_wp2_with (go_at_call 35; (with_reducible refine (HB.out _ HB1.out).mono ?_))
      rintro e w2 ⟨v, rfl, hr2, hb2⟩
      have HZ := Lib.hid (below_two' HB1.out hb2)
      have hk2 := block_on HK1.out hb2
      have HK2 := Lib.hid hk2
      clear p0 p1 p2 hb2
      obtain ⟨y0, y1, y2⟩ := cells_3 hk2
      clear hk2
      obtain ⟨bR, oR, cR, rfl, hbR, r0, r1⟩ := row_2 hr2
      clear hr2
      go_wp2_with (go_at_call 37; (with_reducible refine (HSG'.out _).mono ?_))
      rintro e w3 ⟨v1, v2, rfl, hr3, hr4, hb3⟩
      obtain ⟨A1, m1, d1, rfl, hm1, hd1, hA1⟩ := hr3.strs
      obtain ⟨A2, m2, d2, rfl, hm2, hd2, hA2⟩ := hr4.ints
      have HA1 := Lib.hid hA1
      have HA2 := Lib.hid hA2
      have HM := Lib.hid (And.intro hm1 hm2)
      have HZ3 := Lib.hid (below_two' HZ.out hb3)
      have HK3 := Lib.hid (block_on HK2.out hb3)
      have R0 := Lib.hid ((hb3.cell (p := ⟨bR, oR, none⟩) hbR).trans r0)
      have R1 := Lib.hid ((hb3.cell (p := ⟨bR, oR + 1, none⟩) hbR).trans r1)
      have hbR3 : bR < w3.heap.size := Nat.lt_of_lt_of_le hbR hb3.size
      have hm11 : m2 ≤ 11 := by omega
      clear hr3 hr4 hA1 hA2 hm1 hm2 hd1 hd2 hb3 y0 y1 y2 r0 r1 hbR hn11
      go_wp2_with fail
      go_loopw [13, 14] (fun p i wr => RsgRel w3 os o st m2 p i wr) (fun _ i _ => m2 - (intOf i).toNat)
      case atStart => exact ⟨0, Nat.zero_le _, rfl, by simp, Below.refl _ _⟩
      case round =>
        obtain ⟨j, hj, rfl, rfl, hbw⟩ := hrel
        have HW := Lib.hid hbw
        obtain ⟨pv, hpv⟩ : ∃ pv, pv = (if o ∈ os.take j then st else (⟨#[]⟩ : ByteArray)) := ⟨_, rfl⟩
        rw [← hpv]
        have HPV := Lib.hid hpv
        clear hpv
        obtain ⟨y0, y1, y2⟩ := cells_3 (block_on HK3.out hbw)
        clear hbw
        by_cases hlt : j < m2
        · obtain ⟨b2, f2, rfl, hb2, hcell2⟩ := HA2.out (by omega)
          obtain ⟨u, hu⟩ : ∃ u, os[j]? = some u := get_some (by rw [HM.out.2]; exact hlt)
          have c0 := (HW.out.cell (p := ⟨b2, f2 + j, none⟩) hb2).trans (hcell2 j u hu)
          have HU := Lib.hid hu
          have hltI : (j : Int) < (m2 : Int) := by omega
          have hm12 : m1 = m2 := by have h1 := HM.out.1; have h2 := HM.out.2; have h3 := HLN.out; omega
          subst hm12
          clear hu hcell2
          by_cases he : u = o
          · have g1 : (u == o) = true := by simpa using he
            have hT := HTJ.out.2 j (by rw [← he]; exact HU.out)
            obtain ⟨b1, f1, rfl, hb1, hcell1⟩ := HA1.out (by omega)
            have s0 := (HW.out.cell (p := ⟨b1, f1 + j, none⟩) hb1).trans (hcell1 j _ hT)
            have HE := Lib.hid he
            clear hT hcell1 he
            go_wp2_with fail
            go_big_quiet (fail)
            go_wp2_with fail
            go_roundw
            case rel => exact ⟨j + 1, hlt, by simp, by rw [if_pos (by rw [take_next HU.out, HE.out]; simp)], below_drewN HW.out _⟩
            case measure => simp [intOf]; omega
          · have g1 : (u == o) = false := by simpa using he
            have HE := Lib.hid he
            clear he
            go_wp2_with fail
            go_big_quiet (fail)
            go_wp2_with fail
            go_roundw
            case rel => exact ⟨j + 1, hlt, by simp, rsg_no HPV.out HU.out HE.out, below_drewN HW.out _⟩
            case measure => simp [intOf]; omega
        · obtain rfl : j = m2 := by omega
          have hge : ¬ (j : Int) < (j : Int) := by omega
          have hin : pv = st := HPV.out.trans (if_pos (by rw [List.take_of_length_le (by rw [HM.out.2]; exact Nat.le_refl _)]; exact HTJ.out.1))
          rw [hin]
          have q0 := (HW.out.cell (p := ⟨bR, oR, none⟩) hbR3).trans R0.out
          have q1 := (HW.out.cell (p := ⟨bR, oR + 1, none⟩) hbR3).trans R1.out
          have hbR4 := Nat.lt_of_lt_of_le hbR3 HW.out.size
          have HZ4 := Lib.hid (below_two' HZ3.out HW.out)
          have z0 : ¬ 9223372036854775807 < sx.size + 1 := by omega
          have z1 : ¬ 9223372036854775807 < sx.size + 1 + st.size := by omega
          have z2 : ¬ 9223372036854775807 < sx.size + 1 + st.size + 1 := by omega
          have z3 : ¬ 9223372036854775807 < sx.size + 1 + st.size + 1 + sy.size := by omega
          clear hin hbR3 hlt
          go_wp2_with fail
          go_region_held3 (fun w' => w'.cell? ⟨bR, oR, none⟩ = some (.int .i64 p) ∧ w'.cell? ⟨bR, oR + 1, none⟩ = some (.int .i64 q)) (go_keep)
            ((first
              | (go_at_call 19; (with_reducible refine (HI.out _ HZ4.out.drew).mono ?_); rintro e w5 ⟨rfl, hb5'⟩; have hb5 := undrew hb5'; have HZ5 := Lib.hid (below_two' HZ4.out hb5); have e0 := (hb5.cell (p := ⟨bR, oR, none⟩) hbR4).trans q0; have e1' := (hb5.cell (p := ⟨bR, oR + 1, none⟩) hbR4).trans q1; have hbR5 := Nat.lt_of_lt_of_le hbR4 hb5.size; clear hb5 hb5')
              | (go_at_call 19; (with_reducible refine (HJ.out _ HZ5.out).mono ?_); rintro e w6 ⟨rfl, hb6⟩; have HZ6 := Lib.hid (below_two' HZ5.out hb6); have u0 := (hb6.cell (p := ⟨bR, oR, none⟩) hbR5).trans e0; have u1 := (hb6.cell (p := ⟨bR, oR + 1, none⟩) hbR5).trans e1'; clear hb6)))
          all_goals
            go_wp2_with fail
            go_ret
            exact ⟨rfl, HZ6.out⟩
  · have g4 : (lv == 4) = false := by simpa using h4
    clear h4
    rw [hq] at HI
    clear hq
    by_cases hk : lv < k
    · have HF : Hid (bk (lev (.bin o x y) < k) (tx (.bin o x y)) = (⟨#[40]⟩ ++ ((((sx ++ ⟨#[32]⟩) ++ st) ++ ⟨#[32]⟩) ++ sy)) ++ ⟨#[41]⟩) := Lib.hid (by rw [HBK.out _ HT.out, if_pos hk])
      rw [HF.out]
      have gk : decide (lv < k) = true := by simpa using hk
      clear HF HBK HT
      go_enter Tryd.func19, Tryd.ntmps19
      go_wp2_with (go_at_call 34; (with_reducible refine (HLV.out _).mono ?_))
      rintro e w1 ⟨rfl, hb1⟩
      have hk1 := block_on (heap_alloc_new w (.cells #[.int .i64 o, .int .i64 nn, .string ss] 52)) hb1
      have HB1 := Lib.hid (((Below.refl _ _).alloc (Nat.le_refl _) (.cells #[.int .i64 o, .int .i64 nn, .string ss] 52)).trans (hb1.mono (by simp)))
      obtain ⟨p0, p1, p2⟩ := cells_3 hk1
      have HK1 := Lib.hid hk1
      clear hb1 hk1 c0 c1 c2
      go_wp2_with (go_at_call 35; (with_reducible refine (HB.out _ HB1.out).mono ?_))
      rintro e w2 ⟨v, rfl, hr2, hb2⟩
      have HZ := Lib.hid (below_two' HB1.out hb2)
      have hk2 := block_on HK1.out hb2
      have HK2 := Lib.hid hk2
      clear p0 p1 p2 hb2
      obtain ⟨y0, y1, y2⟩ := cells_3 hk2
      clear hk2
      obtain ⟨bR, oR, cR, rfl, hbR, r0, r1⟩ := row_2 hr2
      clear hr2
      go_wp2_with (go_at_call 37; (with_reducible refine (HSG'.out _).mono ?_))
      rintro e w3 ⟨v1, v2, rfl, hr3, hr4, hb3⟩
      obtain ⟨A1, m1, d1, rfl, hm1, hd1, hA1⟩ := hr3.strs
      obtain ⟨A2, m2, d2, rfl, hm2, hd2, hA2⟩ := hr4.ints
      have HA1 := Lib.hid hA1
      have HA2 := Lib.hid hA2
      have HM := Lib.hid (And.intro hm1 hm2)
      have HZ3 := Lib.hid (below_two' HZ.out hb3)
      have HK3 := Lib.hid (block_on HK2.out hb3)
      have R0 := Lib.hid ((hb3.cell (p := ⟨bR, oR, none⟩) hbR).trans r0)
      have R1 := Lib.hid ((hb3.cell (p := ⟨bR, oR + 1, none⟩) hbR).trans r1)
      have hbR3 : bR < w3.heap.size := Nat.lt_of_lt_of_le hbR hb3.size
      have hm11 : m2 ≤ 11 := by omega
      clear hr3 hr4 hA1 hA2 hm1 hm2 hd1 hd2 hb3 y0 y1 y2 r0 r1 hbR hn11
      go_wp2_with fail
      go_loopw [13, 14] (fun p i wr => RsgRel w3 os o st m2 p i wr) (fun _ i _ => m2 - (intOf i).toNat)
      case atStart => exact ⟨0, Nat.zero_le _, rfl, by simp, Below.refl _ _⟩
      case round =>
        obtain ⟨j, hj, rfl, rfl, hbw⟩ := hrel
        have HW := Lib.hid hbw
        obtain ⟨pv, hpv⟩ : ∃ pv, pv = (if o ∈ os.take j then st else (⟨#[]⟩ : ByteArray)) := ⟨_, rfl⟩
        rw [← hpv]
        have HPV := Lib.hid hpv
        clear hpv
        obtain ⟨y0, y1, y2⟩ := cells_3 (block_on HK3.out hbw)
        clear hbw
        by_cases hlt : j < m2
        · obtain ⟨b2, f2, rfl, hb2, hcell2⟩ := HA2.out (by omega)
          obtain ⟨u, hu⟩ : ∃ u, os[j]? = some u := get_some (by rw [HM.out.2]; exact hlt)
          have c0 := (HW.out.cell (p := ⟨b2, f2 + j, none⟩) hb2).trans (hcell2 j u hu)
          have HU := Lib.hid hu
          have hltI : (j : Int) < (m2 : Int) := by omega
          have hm12 : m1 = m2 := by have h1 := HM.out.1; have h2 := HM.out.2; have h3 := HLN.out; omega
          subst hm12
          clear hu hcell2
          by_cases he : u = o
          · have g1 : (u == o) = true := by simpa using he
            have hT := HTJ.out.2 j (by rw [← he]; exact HU.out)
            obtain ⟨b1, f1, rfl, hb1, hcell1⟩ := HA1.out (by omega)
            have s0 := (HW.out.cell (p := ⟨b1, f1 + j, none⟩) hb1).trans (hcell1 j _ hT)
            have HE := Lib.hid he
            clear hT hcell1 he
            go_wp2_with fail
            go_big_quiet (fail)
            go_wp2_with fail
            go_roundw
            case rel => exact ⟨j + 1, hlt, by simp, by rw [if_pos (by rw [take_next HU.out, HE.out]; simp)], below_drewN HW.out _⟩
            case measure => simp [intOf]; omega
          · have g1 : (u == o) = false := by simpa using he
            have HE := Lib.hid he
            clear he
            go_wp2_with fail
            go_big_quiet (fail)
            go_wp2_with fail
            go_roundw
            case rel => exact ⟨j + 1, hlt, by simp, rsg_no HPV.out HU.out HE.out, below_drewN HW.out _⟩
            case measure => simp [intOf]; omega
        · obtain rfl : j = m2 := by omega
          have hge : ¬ (j : Int) < (j : Int) := by omega
          have hin : pv = st := HPV.out.trans (if_pos (by rw [List.take_of_length_le (by rw [HM.out.2]; exact Nat.le_refl _)]; exact HTJ.out.1))
          rw [hin]
          have q0 := (HW.out.cell (p := ⟨bR, oR, none⟩) hbR3).trans R0.out
          have q1 := (HW.out.cell (p := ⟨bR, oR + 1, none⟩) hbR3).trans R1.out
          have hbR4 := Nat.lt_of_lt_of_le hbR3 HW.out.size
          have HZ4 := Lib.hid (below_two' HZ3.out HW.out)
          have z0 : ¬ 9223372036854775807 < sx.size + 1 := by omega
          have z1 : ¬ 9223372036854775807 < sx.size + 1 + st.size := by omega
          have z2 : ¬ 9223372036854775807 < sx.size + 1 + st.size + 1 := by omega
          have z3 : ¬ 9223372036854775807 < sx.size + 1 + st.size + 1 + sy.size := by omega
          clear hin hbR3 hlt
          go_wp2_with fail
          go_region_held3 (fun w' => w'.cell? ⟨bR, oR, none⟩ = some (.int .i64 p) ∧ w'.cell? ⟨bR, oR + 1, none⟩ = some (.int .i64 q)) (go_keep)
            ((first
              | (go_at_call 19; (with_reducible refine (HI.out _ HZ4.out.drew).mono ?_); rintro e w5 ⟨rfl, hb5'⟩; have hb5 := undrew hb5'; have HZ5 := Lib.hid (below_two' HZ4.out hb5); have e0 := (hb5.cell (p := ⟨bR, oR, none⟩) hbR4).trans q0; have e1' := (hb5.cell (p := ⟨bR, oR + 1, none⟩) hbR4).trans q1; have hbR5 := Nat.lt_of_lt_of_le hbR4 hb5.size; clear hb5 hb5')
              | (go_at_call 19; (with_reducible refine (HJ.out _ HZ5.out).mono ?_); rintro e w6 ⟨rfl, hb6⟩; have HZ6 := Lib.hid (below_two' HZ5.out hb6); have u0 := (hb6.cell (p := ⟨bR, oR, none⟩) hbR5).trans e0; have u1 := (hb6.cell (p := ⟨bR, oR + 1, none⟩) hbR5).trans e1'; clear hb6)))
          all_goals
            go_wp2_with fail
            go_ret
            exact ⟨rfl, HZ6.out⟩
    · have HF : Hid (bk (lev (.bin o x y) < k) (tx (.bin o x y)) = (((sx ++ ⟨#[32]⟩) ++ st) ++ ⟨#[32]⟩) ++ sy) := Lib.hid (by rw [HBK.out _ HT.out, if_neg hk])
      rw [HF.out]
      have gk : decide (lv < k) = false := by simpa using hk
      clear HF HBK HT
      go_enter Tryd.func19, Tryd.ntmps19
      go_wp2_with (go_at_call 34; (with_reducible refine (HLV.out _).mono ?_))
      rintro e w1 ⟨rfl, hb1⟩
      have hk1 := block_on (heap_alloc_new w (.cells #[.int .i64 o, .int .i64 nn, .string ss] 52)) hb1
      have HB1 := Lib.hid (((Below.refl _ _).alloc (Nat.le_refl _) (.cells #[.int .i64 o, .int .i64 nn, .string ss] 52)).trans (hb1.mono (by simp)))
      obtain ⟨p0, p1, p2⟩ := cells_3 hk1
      have HK1 := Lib.hid hk1
      clear hb1 hk1 c0 c1 c2
      go_wp2_with (go_at_call 35; (with_reducible refine (HB.out _ HB1.out).mono ?_))
      rintro e w2 ⟨v, rfl, hr2, hb2⟩
      have HZ := Lib.hid (below_two' HB1.out hb2)
      have hk2 := block_on HK1.out hb2
      have HK2 := Lib.hid hk2
      clear p0 p1 p2 hb2
      obtain ⟨y0, y1, y2⟩ := cells_3 hk2
      clear hk2
      obtain ⟨bR, oR, cR, rfl, hbR, r0, r1⟩ := row_2 hr2
      clear hr2
      go_wp2_with (go_at_call 37; (with_reducible refine (HSG'.out _).mono ?_))
      rintro e w3 ⟨v1, v2, rfl, hr3, hr4, hb3⟩
      obtain ⟨A1, m1, d1, rfl, hm1, hd1, hA1⟩ := hr3.strs
      obtain ⟨A2, m2, d2, rfl, hm2, hd2, hA2⟩ := hr4.ints
      have HA1 := Lib.hid hA1
      have HA2 := Lib.hid hA2
      have HM := Lib.hid (And.intro hm1 hm2)
      have HZ3 := Lib.hid (below_two' HZ.out hb3)
      have HK3 := Lib.hid (block_on HK2.out hb3)
      have R0 := Lib.hid ((hb3.cell (p := ⟨bR, oR, none⟩) hbR).trans r0)
      have R1 := Lib.hid ((hb3.cell (p := ⟨bR, oR + 1, none⟩) hbR).trans r1)
      have hbR3 : bR < w3.heap.size := Nat.lt_of_lt_of_le hbR hb3.size
      have hm11 : m2 ≤ 11 := by omega
      clear hr3 hr4 hA1 hA2 hm1 hm2 hd1 hd2 hb3 y0 y1 y2 r0 r1 hbR hn11
      go_wp2_with fail
      go_loopw [13, 14] (fun p i wr => RsgRel w3 os o st m2 p i wr) (fun _ i _ => m2 - (intOf i).toNat)
      case atStart => exact ⟨0, Nat.zero_le _, rfl, by simp, Below.refl _ _⟩
      case round =>
        obtain ⟨j, hj, rfl, rfl, hbw⟩ := hrel
        have HW := Lib.hid hbw
        obtain ⟨pv, hpv⟩ : ∃ pv, pv = (if o ∈ os.take j then st else (⟨#[]⟩ : ByteArray)) := ⟨_, rfl⟩
        rw [← hpv]
        have HPV := Lib.hid hpv
        clear hpv
        obtain ⟨y0, y1, y2⟩ := cells_3 (block_on HK3.out hbw)
        clear hbw
        by_cases hlt : j < m2
        · obtain ⟨b2, f2, rfl, hb2, hcell2⟩ := HA2.out (by omega)
          obtain ⟨u, hu⟩ : ∃ u, os[j]? = some u := get_some (by rw [HM.out.2]; exact hlt)
          have c0 := (HW.out.cell (p := ⟨b2, f2 + j, none⟩) hb2).trans (hcell2 j u hu)
          have HU := Lib.hid hu
          have hltI : (j : Int) < (m2 : Int) := by omega
          have hm12 : m1 = m2 := by have h1 := HM.out.1; have h2 := HM.out.2; have h3 := HLN.out; omega
          subst hm12
          clear hu hcell2
          by_cases he : u = o
          · have g1 : (u == o) = true := by simpa using he
            have hT := HTJ.out.2 j (by rw [← he]; exact HU.out)
            obtain ⟨b1, f1, rfl, hb1, hcell1⟩ := HA1.out (by omega)
            have s0 := (HW.out.cell (p := ⟨b1, f1 + j, none⟩) hb1).trans (hcell1 j _ hT)
            have HE := Lib.hid he
            clear hT hcell1 he
            go_wp2_with fail
            go_big_quiet (fail)
            go_wp2_with fail
            go_roundw
            case rel => exact ⟨j + 1, hlt, by simp, by rw [if_pos (by rw [take_next HU.out, HE.out]; simp)], below_drewN HW.out _⟩
            case measure => simp [intOf]; omega
          · have g1 : (u == o) = false := by simpa using he
            have HE := Lib.hid he
            clear he
            go_wp2_with fail
            go_big_quiet (fail)
            go_wp2_with fail
            go_roundw
            case rel => exact ⟨j + 1, hlt, by simp, rsg_no HPV.out HU.out HE.out, below_drewN HW.out _⟩
            case measure => simp [intOf]; omega
        · obtain rfl : j = m2 := by omega
          have hge : ¬ (j : Int) < (j : Int) := by omega
          have hin : pv = st := HPV.out.trans (if_pos (by rw [List.take_of_length_le (by rw [HM.out.2]; exact Nat.le_refl _)]; exact HTJ.out.1))
          rw [hin]
          have q0 := (HW.out.cell (p := ⟨bR, oR, none⟩) hbR3).trans R0.out
          have q1 := (HW.out.cell (p := ⟨bR, oR + 1, none⟩) hbR3).trans R1.out
          have hbR4 := Nat.lt_of_lt_of_le hbR3 HW.out.size
          have HZ4 := Lib.hid (below_two' HZ3.out HW.out)
          have z0 : ¬ 9223372036854775807 < sx.size + 1 := by omega
          have z1 : ¬ 9223372036854775807 < sx.size + 1 + st.size := by omega
          have z2 : ¬ 9223372036854775807 < sx.size + 1 + st.size + 1 := by omega
          have z3 : ¬ 9223372036854775807 < sx.size + 1 + st.size + 1 + sy.size := by omega
          clear hin hbR3 hlt
          go_wp2_with fail
          go_region_held3 (fun w' => w'.cell? ⟨bR, oR, none⟩ = some (.int .i64 p) ∧ w'.cell? ⟨bR, oR + 1, none⟩ = some (.int .i64 q)) (go_keep)
            ((first
              | (go_at_call 19; (with_reducible refine (HI.out _ HZ4.out.drew).mono ?_); rintro e w5 ⟨rfl, hb5'⟩; have hb5 := undrew hb5'; have HZ5 := Lib.hid (below_two' HZ4.out hb5); have e0 := (hb5.cell (p := ⟨bR, oR, none⟩) hbR4).trans q0; have e1' := (hb5.cell (p := ⟨bR, oR + 1, none⟩) hbR4).trans q1; have hbR5 := Nat.lt_of_lt_of_le hbR4 hb5.size; clear hb5 hb5')
              | (go_at_call 19; (with_reducible refine (HJ.out _ HZ5.out).mono ?_); rintro e w6 ⟨rfl, hb6⟩; have HZ6 := Lib.hid (below_two' HZ5.out hb6); have u0 := (hb6.cell (p := ⟨bR, oR, none⟩) hbR5).trans e0; have u1 := (hb6.cell (p := ⟨bR, oR + 1, none⟩) hbR5).trans e1'; clear hb6)))
          all_goals
            go_wp2_with fail
            go_ret
            exact ⟨rfl, HZ6.out⟩

theorem rput_all : ∀ e : Ex, ExprSpec.Good e → RPutOk e
  | .leaf _, h => rput_leaf h
  | .un o x, h => by
    have ho : o = 3 ∨ o = 12 := by
      have h1 := h.1
      unfold ar at h1
      split at h1
      · omega
      split at h1
      · assumption
      split at h1 <;> omega
    have ih := rput_all x h.2
    rcases ho with rfl | rfl
    · exact rput_neg h ih
    · exact rput_not h ih
  | .bin o x y, h => by
    have ihx := rput_all x h.2.1
    have ihy := rput_all y h.2.2
    rcases bin_ops h.1 with rfl | rfl | h7
    · exact rput_min h ihx ihy
    · exact rput_max h ihx ihy
    · exact rput_bin h7 h ihx ihy
end Go.Proofs.YtffdfajlfgeicaaDoor
