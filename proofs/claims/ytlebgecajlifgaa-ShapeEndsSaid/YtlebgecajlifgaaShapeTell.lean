/- What the layer of shape tells of states: Kids, Above, Depth, End, Meet. Condition: as many states as memory holds. -/
import Derived.Test.YtlebgecajlifgaaShapeProg
namespace Go.Proofs.Ytlebgecajlifgaa
open Go.RowKit ShapeSpec
set_option maxRecDepth 100000

def kidsA (l : List Sh) (i : Int) : List Int := if hasB l i = true then kids l i.toNat else []
def aboveA (l : List Sh) (i : Int) : List Int := if hasB l i = true then upI l i.toNat else []
def depthA (l : List Sh) (i : Int) : Int := if hasB l i = true then ((up l i.toNat).length + 1 : Nat) else 0
def endA (l : List Sh) (i : Int) : Int := if hasB l i = true then (endOf l i.toNat : Nat) else 0
def meetA (l : List Sh) (i k : Int) : Int := if hasB l i = true ∧ hasB l k = true then meet l i.toNat k.toNat else -1

/-- At hand where has said yes. -/
theorem has_at {l : List Sh} {n : Nat} {i : Int} (hn : n = l.length) (h : hasB l i = true) : ∃ k : Nat, i = k ∧ i.toNat = k ∧ k < n ∧ n ≤ 60 ∧ SU l n := by
  obtain ⟨k, rfl, hk, hc⟩ := has_yes h
  subst hn
  exact ⟨k, rfl, rfl, hk, (chk_ok hc).1, chk_su hc⟩

def KidRel (W : World) (l : List Sh) (i n : Nat) (p v : Value) (wr : World) : Prop := ∃ k : Nat, k ≤ n ∧ v = .int .i64 k ∧ RowI W wr p (kidsTo l i k)
set_option maxHeartbeats 4000000 in
theorem shkids_any (A : Option Addr) (n c : Nat) (l : List Sh) (i : Int) (w : World) (h : Sts w (.slice A n c) l) (hm : n ≤ 9223372036854775807) :
    Calls Try.prog 9 #[.slice A n c, .int .i64 i] w (RetInts w (kidsA l i)) := by
  have hn := h.len
  have HH := Lib.hid (has_any A n c l i w h hm)
  cases hb : hasB l i with
  | false =>
    rw [hb] at HH
    have HE : Hid (kidsA l i = []) := Lib.hid (if_neg (by simp [hb]))
    rw [HE.out]
    clear h hn hb HE
    go_enter Try.func9, Try.ntmps9
    go_wp2_with (go_at_call 22; (with_reducible refine HH.out.mono ?_))
    rintro e w1 ⟨rfl, hb1⟩
    go_wp2_with fail
    go_ret
    exact ⟨_, rfl, Rd.nil _, hb1⟩
  | true =>
    rw [hb] at HH
    obtain ⟨a, rfl, ha, han, hn60, hsu⟩ := has_at hn hb
    have HE : Hid (kidsA l (a : Int) = kidsTo l a n) := Lib.hid (by unfold kidsA; rw [if_pos hb, hn]; rfl)
    rw [HE.out]
    have HT := Lib.hid h
    have HN := Lib.hid hn
    obtain ⟨i0, hi, hz0, hz1, hz2⟩ := info_parts inf_int
    have HI := Lib.hid (And.intro hi (And.intro hz0 (And.intro hz1 hz2)))
    clear h hn hb HE ha hsu hi hz0 hz1 hz2
    go_enter Try.func9, Try.ntmps9
    go_wp2_with (go_at_call 22; (with_reducible refine HH.out.mono ?_))
    rintro e w1 ⟨rfl, hb1⟩
    have HB1 := Lib.hid hb1
    clear hb1
    go_wp2_with fail
    go_loopw [5, 14] (fun p v wr => KidRel w l a n p v wr) (fun _ v _ => n - (intOf v).toNat)
    case atStart => exact ⟨0, Nat.zero_le _, rfl, RowI.nil _ _ HB1.out⟩
    case round =>
      obtain ⟨k, hk, rfl, hrow⟩ := hrel
      have HR := Lib.hid hrow
      clear hrow
      by_cases hlt : k < n
      · have hltI : (k : Int) < n := by omega
        obtain ⟨t, ht⟩ : ∃ t, l[k]? = some t := get_some (by rw [← HN.out]; exact hlt)
        have HT1 := Lib.hid (HT.out.keep HR.out.2)
        obtain ⟨b, off, s, a3, n3, c3, a4, n4, c4, a5, n5, c5, rfl, hb, c0, c1, c2, c3', c4', c5'⟩ := HT1.out.all ht
        have HP := Lib.hid (par_at ht)
        obtain ⟨q, hq⟩ : ∃ q, q = t.par := ⟨_, rfl⟩
        rw [← hq] at c2 HP
        have HRA := Lib.hid (fun (o : Obj) => HR.out.keep ((Below.refl _ _).alloc (Nat.le_refl _) o))
        have HSZ : Hid (w.heap.size ≤ wr.heap.size) := Lib.hid HR.out.2.size
        have hkl := kids_le l a k
        have HL1 : Hid ((kidsTo l a k).length + (intV [(k : Int)]).length ≤ maxLen) := Lib.hid (by simp [maxLen]; omega)
        have HL2 : Hid (((kidsTo l a k).length + (intV [(k : Int)]).length) * 8 ≤ 140737488355328) := Lib.hid (by simp; omega)
        clear ht hq hkl
        by_cases hqa : q = a
        · have g1 : (q == (a : Int)) = true := by simpa using hqa
          have HS : Hid (kidsTo l a (k + 1) = kidsTo l a k ++ [(k : Int)]) := Lib.hid (kids_yes (HP.out.trans hqa))
          clear hqa
          go_wp2_with (at_builtin; refine wpList_append_rd _ rfl (.tmp 23) (.tmp 25) _ rfl w.heap.size 3 i0 (.int .i64 0) 8 Try.underlying27 HI.out.1 HI.out.2.1 HI.out.2.2.1 HI.out.2.2.2 rfl _ _ _ rfl (((HRA.out _).1).alloc _) _ (intV [(k : Int)]) rfl (lit_here (by simp) rfl rfl) (intV_one _) HL1.out HL2.out ?_ ?_; (have := HSZ.out; simp; omega); intro p2 w2 hrow2 hg2 _; have HR2 := Lib.hid (RowI.add (HRA.out _) hrow2 hg2); clear hrow2 hg2)
          go_roundw
          case rel => exact ⟨k + 1, by omega, by simp, by rw [HS.out]; exact HR2.out⟩
          case measure => simp [intOf]; omega
        · have g1 : (q == (a : Int)) = false := by simpa using hqa
          have HS : Hid (kidsTo l a (k + 1) = kidsTo l a k) := Lib.hid (kids_no (by rw [HP.out]; exact hqa))
          clear hqa
          go_wp2_with fail
          go_roundw
          case rel => exact ⟨k + 1, by omega, by simp, by rw [HS.out]; exact HRA.out _⟩
          case measure => simp [intOf]; omega
      · obtain rfl : k = n := by omega
        go_wp2_with fail
        go_ret
        exact HR.out.ret

def AbQ (W : World) (l : List Sh) (i n : Nat) (p v : Value) (wr : World) : Prop := ∃ (j : Int) (xs : List Int), v = .int .i64 j ∧ j < n ∧ RowI W wr p xs ∧ xs.length ≤ i ∧ ((0 ≤ j ∧ xs ++ sfI l j.toNat = upI l i) ∨ (j = -1 ∧ xs = upI l i))
theorem ab_first {l : List Sh} {n i : Nat} (hs : SU l n) (hi : i < n) : par l i < n ∧ ((0 ≤ par l i ∧ [] ++ sfI l (par l i).toNat = upI l i) ∨ (par l i = -1 ∧ [] = upI l i)) := by
  rcases Nat.eq_zero_or_pos i with h0 | h0
  · subst h0
    rw [hs.root hi]
    exact ⟨by omega, .inr ⟨rfl, rfl⟩⟩
  · obtain ⟨p, hp, hlt, hup, _⟩ := hs.parn hi h0
    rw [hp]
    refine ⟨by omega, .inl ⟨by omega, ?_⟩⟩
    unfold upI
    rw [hup]
    rfl
theorem ab_next {l : List Sh} {n i j : Nat} {xs : List Int} (hs : SU l n) (hj : j < n) (h : xs ++ sfI l j = upI l i) : par l j < n ∧ par l j < j ∧ (xs ++ [(j : Int)]).length ≤ i ∧ ((0 ≤ par l j ∧ (xs ++ [(j : Int)]) ++ sfI l (par l j).toNat = upI l i) ∨ (par l j = -1 ∧ xs ++ [(j : Int)] = upI l i)) := by
  have hle : (xs ++ [(j : Int)]).length ≤ i := by
    have h1 := congrArg List.length h
    have h2 := up_length_le l i
    rw [upI_length, List.length_append, sfI_length] at h1
    rw [List.length_append, List.length_singleton]
    omega
  rcases Nat.eq_zero_or_pos j with h0 | h0
  · subst h0
    rw [hs.root hj]
    exact ⟨by omega, by omega, hle, .inr ⟨rfl, h⟩⟩
  · obtain ⟨p, hp, hlt, hup, _⟩ := hs.parn hj h0
    rw [hp]
    refine ⟨by omega, by omega, hle, .inl ⟨by omega, ?_⟩⟩
    rw [sfI_cons, ← List.append_assoc] at h
    rw [← h]
    congr 1
    unfold upI
    rw [hup]
    rfl
set_option maxHeartbeats 4000000 in
theorem shabove_any (A : Option Addr) (n c : Nat) (l : List Sh) (i : Int) (w : World) (h : Sts w (.slice A n c) l) (hm : n ≤ 9223372036854775807) :
    Calls Try.prog 10 #[.slice A n c, .int .i64 i] w (RetInts w (aboveA l i)) := by
  have hn := h.len
  have HH := Lib.hid (has_any A n c l i w h hm)
  cases hb : hasB l i with
  | false =>
    rw [hb] at HH
    have HE : Hid (aboveA l i = []) := Lib.hid (if_neg (by simp [hb]))
    rw [HE.out]
    clear h hn hb HE
    go_enter Try.func10, Try.ntmps10
    go_wp2_with (go_at_call 22; (with_reducible refine HH.out.mono ?_))
    rintro e w1 ⟨rfl, hb1⟩
    go_wp2_with fail
    go_ret
    exact ⟨_, rfl, Rd.nil _, hb1⟩
  | true =>
    rw [hb] at HH
    obtain ⟨a, rfl, ha, han, hn60, hsu⟩ := has_at hn hb
    have HE : Hid (aboveA l (a : Int) = upI l a) := Lib.hid (by unfold aboveA; rw [if_pos hb]; rfl)
    rw [HE.out]
    have HT := Lib.hid h
    have HSU := Lib.hid hsu
    obtain ⟨hf1, hf2⟩ := ab_first hsu han
    have HF := Lib.hid hf2
    obtain ⟨b, off, rfl, hb', -, c2⟩ := h.at_ han
    have HC := Lib.hid c2
    have hanI : (a : Int) < n := by omega
    obtain ⟨q, hq⟩ : ∃ q, q = par l a := ⟨_, rfl⟩
    rw [← hq] at HC HF hf1
    obtain ⟨i0, hi, hz0, hz1, hz2⟩ := info_parts inf_int
    have HI := Lib.hid (And.intro hi (And.intro hz0 (And.intro hz1 hz2)))
    clear h hn hb HE ha hsu hi hz0 hz1 hz2 hf2 c2 hq
    go_enter Try.func10, Try.ntmps10
    go_wp2_with (go_at_call 22; (with_reducible refine HH.out.mono ?_))
    rintro e w1 ⟨rfl, hb1⟩
    have c2 := (hb1.cell (p := ⟨b, off + a * 6 + 2, none⟩) hb').trans HC.out
    have HB1 := Lib.hid hb1
    clear hb1
    go_wp2_with fail
    go_loopw [5, 6] (fun p v wr => AbQ w l a n p v wr) (fun _ v _ => (intOf v + 1).toNat)
    case atStart => exact ⟨q, [], rfl, hf1, RowI.nil _ _ HB1.out, Nat.zero_le _, HF.out⟩
    case round =>
      obtain ⟨j, xs, rfl, hj, hrow, hxl, hq⟩ := hrel
      have HR := Lib.hid hrow
      clear hrow c2
      rcases hq with ⟨h0, hq⟩ | ⟨rfl, hq⟩
      · obtain ⟨j, rfl⟩ := Int.eq_ofNat_of_zero_le h0
        obtain ⟨g1, g2, g3, g4⟩ := ab_next (j := j) HSU.out (by omega) hq
        have HG := Lib.hid g4
        have HT1 := Lib.hid (HT.out.keep HR.out.2)
        have HGL := Lib.hid g3
        obtain ⟨p', hp'⟩ : ∃ p', p' = par l j := ⟨_, rfl⟩
        have HP := Lib.hid hp'
        rw [← hp'] at HG g1 g2
        have HSZ : Hid (w.heap.size ≤ wr.heap.size) := Lib.hid HR.out.2.size
        have HL1 : Hid (xs.length + (intV [(j : Int)]).length ≤ maxLen) := Lib.hid (by simp [maxLen]; omega)
        have HL2 : Hid ((xs.length + (intV [(j : Int)]).length) * 8 ≤ 140737488355328) := Lib.hid (by simp; omega)
        have hjn : j < n := by omega
        clear hq g4 g3 hp'
        go_wp2_with (at_builtin; refine wpList_append_rd _ rfl (.tmp 23) (.tmp 25) _ rfl w.heap.size 3 i0 (.int .i64 0) 8 Try.underlying27 HI.out.1 HI.out.2.1 HI.out.2.2.1 HI.out.2.2.2 rfl _ _ _ rfl (HR.out.1.alloc _) _ (intV [(j : Int)]) rfl (lit_here rfl rfl rfl) (intV_one _) HL1.out HL2.out ?_ ?_; (have := HSZ.out; simp; omega); intro p2 w2 hrow2 hg2 _; have HR2 := Lib.hid (RowI.add HR.out hrow2 hg2); have HC2 := Lib.hid (HT.out.keep HR2.out.2); obtain ⟨b2, off2, heq2, hb2, -, c2⟩ := HC2.out.at_ hjn; cases heq2; rw [← HP.out] at c2; clear hrow2 hg2)
        go_roundw
        case rel => exact ⟨p', _, rfl, g1, HR2.out, HGL.out, HG.out⟩
        case measure => simp [intOf]; omega
      · have HX := Lib.hid hq
        have HR3 : Hid (RetInts w (upI l a) _ wr) := Lib.hid (by rw [← HX.out]; exact HR.out.ret)
        clear hq
        go_wp2_with fail
        go_ret
        exact HR3.out

set_option maxHeartbeats 1000000 in
theorem shdep_any (A : Option Addr) (n c : Nat) (l : List Sh) (i : Int) (w : World) (h : Sts w (.slice A n c) l) (hm : n ≤ 9223372036854775807) :
    Calls Try.prog 11 #[.slice A n c, .int .i64 i] w (RetI w (depthA l i)) := by
  have hn := h.len
  have HH := Lib.hid (has_any A n c l i w h hm)
  cases hb : hasB l i with
  | false =>
    rw [hb] at HH
    have HE : Hid (depthA l i = 0) := Lib.hid (if_neg (by simp [hb]))
    rw [HE.out]
    clear h hn hb HE
    go_enter Try.func11, Try.ntmps11
    go_wp2_with (go_at_call 22; (with_reducible refine HH.out.mono ?_))
    rintro e w1 ⟨rfl, hb1⟩
    go_wp2_with fail
    go_ret
    exact ⟨rfl, hb1⟩
  | true =>
    rw [hb] at HH
    obtain ⟨a, rfl, ha, han, hn60, hsu⟩ := has_at hn hb
    have HE : Hid (depthA l (a : Int) = ((up l a).length + 1 : Nat)) := Lib.hid (by unfold depthA; rw [if_pos hb]; rfl)
    rw [HE.out]
    have HT := Lib.hid h
    have HD := Lib.hid (fun w1 h => shdepth_any A n c l a w1 h hsu han (by omega))
    clear h hn hb HE ha hsu
    go_enter Try.func11, Try.ntmps11
    go_wp2_with (go_at_call 22; (with_reducible refine HH.out.mono ?_))
    rintro e w1 ⟨rfl, hb1⟩
    have HX := Lib.hid (HD.out _ (HT.out.keep hb1))
    go_wp2_with (go_at_call 20; (with_reducible refine HX.out.mono ?_); rintro e w' ⟨rfl, rfl⟩)
    go_ret
    exact ⟨rfl, hb1⟩

def EndQ (l : List Sh) (i n : Nat) (v : Value) : Prop := ∃ e : Nat, v = .int .i64 e ∧ i < e ∧ e ≤ n ∧ i ∈ sf l (e - 1)
theorem endQ_next {l : List Sh} {n i e : Nat} (hs : SU l n) (he : e < n) (hi : i < e) (hin : i ∈ sf l (e - 1)) (h : (i : Int) ≤ par l e) : EndQ l i n (.int .i64 ((e : Int) + 1)) :=
  ⟨e + 1, by simp, by omega, by omega, by rw [Nat.add_sub_cancel]; exact up_in ((below_par hs he hi hin).2 h)⟩
theorem endQ_stop {l : List Sh} {n i e : Nat} (hn : n = l.length) (hs : SU l n) (he : e ≤ n) (hi : i < e) (hin : i ∈ sf l (e - 1)) (h : e < n → ¬ (i : Int) ≤ par l e) : endOf l i = e := by
  subst hn
  exact end_found hs hi he hin fun hlt hm => h hlt ((below_par hs hlt hi hin).1 hm)
set_option maxHeartbeats 2000000 in
theorem shend_any (A : Option Addr) (n c : Nat) (l : List Sh) (i : Int) (w : World) (h : Sts w (.slice A n c) l) (hm : n ≤ 9223372036854775807) :
    Calls Try.prog 12 #[.slice A n c, .int .i64 i] w (RetI w (endA l i)) := by
  have hn := h.len
  have HH := Lib.hid (has_any A n c l i w h hm)
  cases hb : hasB l i with
  | false =>
    rw [hb] at HH
    have HE : Hid (endA l i = 0) := Lib.hid (if_neg (by simp [hb]))
    rw [HE.out]
    clear h hn hb HE
    go_enter Try.func12, Try.ntmps12
    go_wp2_with (go_at_call 22; (with_reducible refine HH.out.mono ?_))
    rintro e w1 ⟨rfl, hb1⟩
    go_wp2_with fail
    go_ret
    exact ⟨rfl, hb1⟩
  | true =>
    rw [hb] at HH
    obtain ⟨a, rfl, ha, han, hn60, hsu⟩ := has_at hn hb
    have HE : Hid (endA l (a : Int) = (endOf l a : Nat)) := Lib.hid (by unfold endA; rw [if_pos hb]; rfl)
    rw [HE.out]
    have HT := Lib.hid h
    have HN := Lib.hid (fun e he hi hin hx => endQ_next (i := a) (e := e) hsu he hi hin hx)
    have HS := Lib.hid (fun e he hi hin hx => endQ_stop (i := a) (e := e) hn hsu he hi hin hx)
    obtain ⟨r, hr⟩ : ∃ r, r = endOf l a := ⟨_, rfl⟩
    rw [← hr] at HS ⊢
    clear h hn hb HE ha hsu hr
    go_enter Try.func12, Try.ntmps12
    go_wp2_with (go_at_call 22; (with_reducible refine HH.out.mono ?_))
    rintro e w1 ⟨rfl, hb1⟩
    have HT1 := Lib.hid (HT.out.keep hb1)
    have HB := Lib.hid hb1
    clear hb1
    go_wp2_with fail
    go_loop [5] (fun v => EndQ l a n v) (fun v => n - (intOf v).toNat)
    case atStart => exact ⟨a + 1, by simp, by omega, by omega, by simpa using sf_self l a⟩
    case round =>
      obtain ⟨e, rfl, hae, hen, hin⟩ := hrel
      have HIN := Lib.hid hin
      clear hin
      by_cases hlt : e < n
      · have hltI : (e : Int) < n := by omega
        obtain ⟨b, off, rfl, hb, -, c2⟩ := HT1.out.at_ hlt
        have HNX := Lib.hid (HN.out e hlt hae HIN.out)
        have HST := Lib.hid (fun hx => HS.out e hen hae HIN.out (fun _ => hx))
        obtain ⟨q, hq⟩ : ∃ q, q = par l e := ⟨_, rfl⟩
        rw [← hq] at c2 HNX HST
        have g1 : decide (e < n) = true := decide_eq_true hlt
        clear hq
        by_cases hx : (a : Int) ≤ q
        · have g2 : decide ((a : Int) ≤ q) = true := decide_eq_true hx
          go_wp2_with fail
          go_round
          case rel => exact HNX.out hx
          case measure => simp [intOf]; omega
        · have g2 : decide ((a : Int) ≤ q) = false := decide_eq_false hx
          have HX := Lib.hid (HST.out (by omega))
          go_wp2_with fail
          go_ret
          exact ⟨ret_int (by rw [HX.out]), HB.out⟩
      · have HX := Lib.hid (HS.out e hen hae HIN.out (fun h => absurd h hlt))
        have g1 : decide (e < n) = false := decide_eq_false hlt
        go_wp2_with fail
        go_ret
        exact ⟨ret_int (by rw [HX.out]), HB.out⟩

def MeetQ (l : List Sh) (n : Nat) (m : Int) (v u : Value) : Prop := ∃ i k : Nat, v = .int .i64 i ∧ u = .int .i64 k ∧ i < n ∧ k < n ∧ meet l i k = m
theorem meetQ_left {l : List Sh} {n i k : Nat} {m : Int} (hs : SU l n) (hi : i < n) (hk : k < i) (h : meet l i k = m) : 0 ≤ par l i ∧ par l i < i ∧ MeetQ l n m (.int .i64 (par l i)) (.int .i64 k) := by
  obtain ⟨p, hp, hlt, hup, _⟩ := hs.parn hi (by omega)
  rw [hp]
  exact ⟨by omega, by omega, p, k, rfl, rfl, by omega, by omega, (meet_left hk hup).symm.trans h⟩
theorem meetQ_right {l : List Sh} {n i k : Nat} {m : Int} (hs : SU l n) (hi : k < n) (hk : i < k) (h : meet l i k = m) : 0 ≤ par l k ∧ par l k < k ∧ MeetQ l n m (.int .i64 i) (.int .i64 (par l k)) := by
  obtain ⟨p, hp, hlt, hup, _⟩ := hs.parn hi (by omega)
  rw [hp]
  exact ⟨by omega, by omega, i, p, rfl, rfl, by omega, by omega, (meet_right hk hup).symm.trans h⟩
set_option maxHeartbeats 4000000 in
theorem shmeet_any (A : Option Addr) (n c : Nat) (l : List Sh) (i k : Int) (w : World) (h : Sts w (.slice A n c) l) (hm : n ≤ 9223372036854775807) :
    Calls Try.prog 13 #[.slice A n c, .int .i64 i, .int .i64 k] w (RetI w (meetA l i k)) := by
  have hn := h.len
  have HH := Lib.hid (has_any A n c l i w h hm)
  cases hb : hasB l i with
  | false =>
    rw [hb] at HH
    have HE : Hid (meetA l i k = -1) := Lib.hid (if_neg (by simp [hb]))
    rw [HE.out]
    clear h hn hb HE
    go_enter Try.func13, Try.ntmps13
    go_wp2_with (go_at_call 22; (with_reducible refine HH.out.mono ?_))
    rintro e w1 ⟨rfl, hb1⟩
    go_wp2_with fail
    go_ret
    exact ⟨rfl, hb1⟩
  | true =>
    rw [hb] at HH
    have HT := Lib.hid h
    have HK := Lib.hid (fun w1 h => has_any A n c l k w1 h hm)
    cases hb' : hasB l k with
    | false =>
      rw [hb'] at HK
      have HE : Hid (meetA l i k = -1) := Lib.hid (if_neg (by simp [hb']))
      rw [HE.out]
      clear h hn hb hb' HE
      go_enter Try.func13, Try.ntmps13
      go_wp2_with (go_at_call 22; (with_reducible refine HH.out.mono ?_))
      rintro e w1 ⟨rfl, hb1⟩
      have HK1 := Lib.hid (HK.out _ (HT.out.keep hb1))
      go_wp2_with (go_at_call 22; (with_reducible refine HK1.out.mono ?_))
      rintro e w2 ⟨rfl, hb2⟩
      go_wp2_with fail
      go_ret
      exact ⟨rfl, below_two' hb1 hb2⟩
    | true =>
      rw [hb'] at HK
      obtain ⟨a, rfl, ha, han, hn60, hsu⟩ := has_at hn hb
      obtain ⟨z, rfl, hz, hzn, -, -⟩ := has_at hn hb'
      have HE : Hid (meetA l (a : Int) (z : Int) = meet l a z) := Lib.hid (by unfold meetA; rw [if_pos ⟨hb, hb'⟩]; rfl)
      rw [HE.out]
      have HSU := Lib.hid hsu
      obtain ⟨m, hme⟩ : ∃ m, m = meet l a z := ⟨_, rfl⟩
      rw [← hme]
      have HM := Lib.hid hme
      clear h hn hb hb' HE ha hz hsu hme
      go_enter Try.func13, Try.ntmps13
      go_wp2_with (go_at_call 22; (with_reducible refine HH.out.mono ?_))
      rintro e w1 ⟨rfl, hb1⟩
      have HK1 := Lib.hid (HK.out _ (HT.out.keep hb1))
      have HB1 := Lib.hid hb1
      clear hb1
      go_wp2_with (go_at_call 22; (with_reducible refine HK1.out.mono ?_))
      rintro e w2 ⟨rfl, hb2⟩
      have HB2 := Lib.hid (below_two' HB1.out hb2)
      have HT2 := Lib.hid (HT.out.keep HB2.out)
      clear hb2
      go_wp2_with fail
      go_loop [1, 2] (fun v u => MeetQ l n m v u) (fun v u => (intOf v).toNat + (intOf u).toNat)
      case atStart => exact ⟨a, z, rfl, rfl, han, hzn, HM.out.symm⟩
      case round =>
        obtain ⟨x, y, rfl, rfl, hx, hy, hme⟩ := hrel
        rcases Nat.lt_trichotomy x y with hlt | heq | hgt
        · have g1 : ((x : Int) != (y : Int)) = true := by simp; omega
          have g1' : (x != y) = true := by simp; omega
          have g2 : ¬ (y : Int) < x := by omega
          obtain ⟨b, off, rfl, hb, -, c2⟩ := HT2.out.at_ hy
          obtain ⟨hp1, hp2, hp3⟩ := meetQ_right HSU.out hy hlt hme
          have HN := Lib.hid hp3
          obtain ⟨p', hp'⟩ : ∃ p', p' = par l y := ⟨_, rfl⟩
          rw [← hp'] at c2 hp1 hp2 HN
          clear hp' hp3 hme
          go_wp2_with fail
          go_round
          case rel => exact HN.out
          case measure => simp [intOf]; omega
        · subst heq
          have HX : Hid ((x : Int) = m) := Lib.hid (by rw [← hme, meet_self])
          have g1 : ((x : Int) != (x : Int)) = false := by simp
          clear hme
          go_wp2_with fail
          go_ret
          exact ⟨ret_int HX.out, HB2.out⟩
        · have g1 : ((x : Int) != (y : Int)) = true := by simp; omega
          have g1' : (x != y) = true := by simp; omega
          have g2 : (y : Int) < x := by omega
          obtain ⟨b, off, rfl, hb, -, c2⟩ := HT2.out.at_ hx
          obtain ⟨hp1, hp2, hp3⟩ := meetQ_left HSU.out hx hgt hme
          have HN := Lib.hid hp3
          obtain ⟨p', hp'⟩ : ∃ p', p' = par l x := ⟨_, rfl⟩
          rw [← hp'] at c2 hp1 hp2 HN
          clear hp' hp3 hme
          go_wp2_with fail
          go_round
          case rel => exact HN.out
          case measure => simp [intOf]; omega
end Go.Proofs.Ytlebgecajlifgaa
