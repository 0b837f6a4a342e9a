/- The walk of CursorAsks: it returns true, and what was in memory stays. Conditions: texts no longer than memory holds. -/
import Derived.Test.YtoegpieomnpifaaCurAwake
import Derived.BigQuiet
import Derived.Deep.RegionHeld3
namespace Go.Proofs.Ytoegpieomnpifaa
open Go.RowKit CurSpec

/-- What is asked. -/
structure Ak where
  d : Int
  k : Int
  s : ByteArray
  n : Int
def akV (a : Ak) : List Value := [.int .i64 a.d, .int .i64 a.k, .string a.s, .int .i64 a.n]
theorem akV_length (a : Ak) : (akV a).length = 4 := rfl
def aksV (l : List Ak) : List Value := l.flatMap akV
abbrev akO (a : Ak) : Obj := .cells #[.int .i64 a.d, .int .i64 a.k, .string a.s, .int .i64 a.n] 35
theorem ak_get {w : World} {A : Option Addr} {m cp j : Nat} {l : List Ak} (h : Rdk 4 w (.slice A m cp) m (aksV l)) (hm : m = l.length) (hj : j < m) :
    ∃ b off a, A = some ⟨b, off, none⟩ ∧ b < w.heap.size ∧ l[j]? = some a ∧ w.cell? ⟨b, off + j * 4, none⟩ = some (.int .i64 a.d) ∧ w.cell? ⟨b, off + j * 4 + 1, none⟩ = some (.int .i64 a.k) ∧ w.cell? ⟨b, off + j * 4 + 2, none⟩ = some (.string a.s) ∧ w.cell? ⟨b, off + j * 4 + 3, none⟩ = some (.int .i64 a.n) := by
  obtain ⟨A', c', heq, _, _, hA⟩ := h
  cases heq
  obtain ⟨b, off, rfl, hlt, hcell⟩ := hA (by omega)
  obtain ⟨a, ha⟩ : ∃ a, l[j]? = some a := get_some (by omega)
  exact ⟨b, off, a, rfl, hlt, ha, hcell _ _ (flat_get (j := 0) akV_length ha (by omega)), hcell _ _ (flat_get (j := 1) akV_length ha (by omega)), hcell _ _ (flat_get (j := 2) akV_length ha (by omega)), hcell _ _ (flat_get (j := 3) akV_length ha (by omega))⟩
theorem tk_get {w : World} {A : Option Addr} {n cp j : Nat} {l : List Tk} (h : Toks w (.slice A n cp) l) (hj : j < n) :
    ∃ b off t, A = some ⟨b, off, none⟩ ∧ b < w.heap.size ∧ l[j]? = some t ∧ w.cell? ⟨b, off + j * 4 + 1, none⟩ = some (.string t.t) := by
  obtain ⟨n', hn, A', c', heq, _, _, hA⟩ := h
  cases heq
  obtain ⟨b, off, rfl, hlt, hcell⟩ := hA (by omega)
  obtain ⟨t, ht⟩ : ∃ t, l[j]? = some t := get_some (by omega)
  exact ⟨b, off, t, rfl, hlt, ht, hcell _ _ (tksV_get ht).2.1⟩

/-- The reference's cursor in its block, its tokens in the memory of the beginning. -/
def RefAt (W wr : World) (B2 : Nat) (c : Cur) : Prop := ∃ A n cp, wr.heap[B2]? = some (.cells #[.slice A n cp, .int .i64 c.w1, .int .i64 c.w2, .int .i64 c.a1, .int .i64 c.a2, .int .i64 c.bad] 33 (0, 0)) ∧ Toks W (.slice A n cp) c.L
/-- In a round: the program's cursor, the reference's, what is asked. -/
structure Mid (W : World) (B B2 H : Nat) (a : Ak) (c c' : Cur) (x : World) : Prop where
  cur : CurAt x B c
  ref : RefAt W x B2 c'
  ask : x.heap[H]? = some (.cells #[.int .i64 a.d, .int .i64 a.k, .string a.s, .int .i64 a.n] 35 (0, 0))
  below : Below W.heap.size W x
  hB : W.heap.size ≤ B
  lt : B < B2
  lt2 : B2 < H
section
variable {W x x' : World} {B B2 H : Nat} {a : Ak} {c c' : Cur}
theorem RefAt.keep (h : RefAt W x B2 c) (hb : Below x.heap.size x x') : RefAt W x' B2 c := by
  obtain ⟨A, n, cp, h, hT⟩ := h
  exact ⟨A, n, cp, block_on h hb, hT⟩
theorem Mid.keep (h : Mid W B B2 H a c c' x) (hb : Below x.heap.size x x') : Mid W B B2 H a c c' x' :=
  ⟨h.cur.keep hb, h.ref.keep hb, block_on h.ask hb, below_two' h.below hb, h.hB, h.lt, h.lt2⟩
theorem Mid.alloc (h : Mid W B B2 H a c c' x) (o : Obj) : Mid W B B2 H a c c' (x.alloc o) := h.keep ((Below.refl _ _).alloc (Nat.le_refl _) _)
theorem Mid.refset (h : Mid W B B2 H a c c' x) {d : Cur} {A : Option Addr} {n cp : Nat} (hT : Toks W (.slice A n cp) d.L) :
    Mid W B B2 H a c d ((((((x.setCell ⟨B2, 0, none⟩ (.slice A n cp)).setCell ⟨B2, 1, none⟩ (.int .i64 d.w1)).setCell ⟨B2, 2, none⟩ (.int .i64 d.w2)).setCell ⟨B2, 3, none⟩ (.int .i64 d.a1)).setCell ⟨B2, 4, none⟩ (.int .i64 d.a2)).setCell ⟨B2, 5, none⟩ (.int .i64 d.bad)) := by
  have hg := but_set (but_set (but_set (but_set (but_set (but_set (but_refl x (some B2)) 0 (.slice A n cp)) 1 (.int .i64 d.w1)) 2 (.int .i64 d.w2)) 3 (.int .i64 d.a1)) 4 (.int .i64 d.a2)) 5 (.int .i64 d.bad)
  have hl := h.lt
  have hl2 := h.lt2
  have hB := h.hB
  obtain ⟨A', n', cp', hR, _⟩ := h.ref
  have e := block_setCell' (block_setCell' (block_setCell' (block_setCell' (block_setCell' (block_setCell' hR 0 (.slice A n cp)) 1 (.int .i64 d.w1)) 2 (.int .i64 d.w2)) 3 (.int .i64 d.a1)) 4 (.int .i64 d.a2)) 5 (.int .i64 d.bad)
  refine ⟨h.cur.but hg h.lt, ⟨A, n, cp, ?_, hT⟩, (hg.block _ (Array.getElem?_eq_some_iff.1 h.ask).1 (by simp; omega)).trans h.ask, below_six h.below (by omega) _ _ _ _ _ _, h.hB, h.lt, h.lt2⟩
  exact e
theorem Mid.call (h : Mid W B B2 H a c c' x) {d : Cur} (hC : CurAt x' B d) (hg : x.grownBy x' (some B)) : Mid W B B2 H a d c' x' := by
  have hl := h.lt
  have hl2 := h.lt2
  obtain ⟨A', n', cp', hR, hT⟩ := h.ref
  exact ⟨hC, ⟨A', n', cp', (hg.block _ (Array.getElem?_eq_some_iff.1 hR).1 (by simp; omega)).trans hR, hT⟩, (hg.block _ (Array.getElem?_eq_some_iff.1 h.ask).1 (by simp; omega)).trans h.ask, below_but h.below hg h.hB, h.hB, h.lt, h.lt2⟩
end
structure AskSt (W : World) (B B2 : Nat) (c : Cur) (wr : World) : Prop where
  cur : CurAt wr B c
  ref : RefAt W wr B2 c
  ok : Ok c
  below : Below W.heap.size W wr
  hB : W.heap.size ≤ B
  lt : B < B2
theorem AskSt.mid {W wr : World} {B B2 : Nat} {c : Cur} (h : AskSt W B B2 c wr) (a : Ak) : Mid W B B2 wr.heap.size a c c (wr.alloc (akO a)) := by
  obtain ⟨A, n, cp, hR, hT⟩ := h.ref
  exact ⟨h.cur.alloc _, ⟨A, n, cp, (heap_alloc_old _ _ (Array.getElem?_eq_some_iff.1 hR).1).trans hR, hT⟩, heap_alloc_new _ _, h.below.alloc h.below.size _, h.hB, h.lt, (Array.getElem?_eq_some_iff.1 hR).1⟩
def AskRel (W : World) (B B2 m : Nat) (v : Value) (wr : World) : Prop := ∃ j c, j ≤ m ∧ v = .int .i64 (j : Nat) ∧ AskSt W B B2 c wr
theorem ask_next {W x : World} {B B2 H m i : Nat} {a : Ak} {c : Cur} (hi : i < m) (h : Mid W B B2 H a c c x) (ok : Ok c) (o : Obj) : AskRel W B B2 m (.int .i64 ((i : Int) + 1)) (x.alloc o) := by
  have h' := h.alloc o
  exact ⟨i + 1, c, hi, by simp, h'.cur, h'.ref, ok, h'.below, h'.hB, h'.lt⟩

set_option maxHeartbeats 8000000 in
set_option maxRecDepth 100000 in
theorem walk_CursorAsks' (A : Option Addr) (n cp : Nat) (l : List Tk) (A2 : Option Addr) (m cp2 : Nat) (ks : List Ak) (w : World) (h : Toks w (.slice A n cp) l) (hl : ∀ t ∈ l, t.t.size ≤ 9223372036854775807) (hk : Rdk 4 w (.slice A2 m cp2) m (aksV ks)) (hm : m = ks.length) (hn63 : n ≤ 9223372036854775807) (hm63 : m ≤ 9223372036854775807) :
    Calls Try.prog 3 #[.slice A n cp, .slice A2 m cp2] w (RetBool w true) := by
  have HAw := Lib.hid awake_any
  have HT := Lib.hid h
  have HL := Lib.hid hl
  have HK := Lib.hid hk
  have HM := Lib.hid hm
  clear h hl hk hm
  by_cases hb : 60 < n ∨ 60 < m
  · by_cases hn : 60 < n
    · have d1 : decide (60 < (n : Int)) = true := decide_eq_true (by omega)
      clear hb hn
      go_enter Try.func3, Try.ntmps3
      go_wp2_with (go_at_call 5; (with_reducible refine (HAw.out _).mono ?_))
      rintro e w1 ⟨rfl, hb1⟩
      have HB1 := Lib.hid hb1
      clear hb1
      go_wp2_with fail
      go_ret
      exact ⟨rfl, HB1.out⟩
    · have d1 : decide (60 < (n : Int)) = false := decide_eq_false (by omega)
      have d2 : decide (60 < (m : Int)) = true := decide_eq_true (by omega)
      clear hb hn
      go_enter Try.func3, Try.ntmps3
      go_wp2_with (go_at_call 5; (with_reducible refine (HAw.out _).mono ?_))
      rintro e w1 ⟨rfl, hb1⟩
      have HB1 := Lib.hid hb1
      clear hb1
      go_wp2_with fail
      go_ret
      exact ⟨rfl, HB1.out⟩
  · obtain ⟨hn, hmm⟩ : n ≤ 60 ∧ m ≤ 60 := by omega
    have d1 : decide (60 < (n : Int)) = false := decide_eq_false (by omega)
    have d2 : decide (60 < (m : Int)) = false := decide_eq_false (by omega)
    clear hb
    go_enter Try.func3, Try.ntmps3
    go_wp2_with fail
    go_loop [5] (fun v => ∃ j : Nat, j ≤ n ∧ v = .int .i64 j) (fun v => n - (intOf v).toNat)
    case atStart => exact ⟨0, Nat.zero_le _, rfl⟩
    case round =>
      obtain ⟨j, hj, rfl⟩ := hrel
      by_cases hlt : j < n
      · obtain ⟨b, off, t, rfl, hbl, ht, c0⟩ := tk_get HT.out hlt
        have hs : t.t.size ≤ 9223372036854775807 := HL.out t (List.mem_of_getElem? ht)
        clear ht
        by_cases h100 : 100 < t.t.size
        · have hI : 100 < (t.t.size : Int) := by omega
          go_wp2_with (go_at_call 5; (with_reducible refine (HAw.out _).mono ?_))
          rintro e w1 ⟨rfl, hb1⟩
          have HB1 := Lib.hid hb1
          clear hb1
          go_wp2_with fail
          go_ret
          exact ⟨rfl, HB1.out⟩
        · have hI : (t.t.size : Int) ≤ 100 := by omega
          clear h100
          go_wp2_with fail
          go_round
          case rel => exact ⟨j + 1, hlt, by go_num⟩
          case measure => simp [intOf]; omega
      · have HNew := Lib.hid (new_any A n cp l w HT.out (by omega))
        go_wp2_with (go_at_call 6; (with_reducible refine HNew.out.mono ?_))
        rintro e w1 ⟨B, rfl, hge, hC, hb1⟩
        have HC := Lib.hid hC
        have HB1 := Lib.hid hb1
        clear hC hb1
        go_wp2_with fail
        go_loopw [8] (fun v wr => AskRel w B w1.heap.size m v wr) (fun v _ => m - (intOf v).toNat)
        case atStart =>
          refine ⟨0, ⟨l, 0, 0, 0, 0, 0⟩, Nat.zero_le _, rfl, HC.out.alloc _, ⟨A, n, cp, heap_alloc_new _ _, HT.out⟩, HL.out, HB1.out.alloc HB1.out.size _, hge, HC.out.lt⟩
        case round =>
          obtain ⟨i, c, hi, rfl, hSt⟩ := hrel
          have HSt := Lib.hid hSt
          clear hSt
          by_cases hlt2 : i < m
          · obtain ⟨A', n', cp', hRb, hRT⟩ := HSt.out.ref
            obtain ⟨b, off, a, rfl, hbl, ha, a0, a1, a2, a3⟩ := ak_get (HK.out.keep HSt.out.below) HM.out hlt2
            obtain ⟨r0, r1, r2, r3, r4, r5⟩ := cells_6 hRb
            obtain ⟨t, ht⟩ : ∃ t, t = next c := ⟨_, rfl⟩
            obtain ⟨V, hV⟩ : ∃ V, V = wr.alloc (akO a) := ⟨_, rfl⟩
            have HM0 : Hid (Mid w B w1.heap.size wr.heap.size a c c V) := Lib.hid (by rw [hV]; exact HSt.out.mid a)
            have HOk := Lib.hid HSt.out.ok
            have HV := Lib.hid hV
            have HRV : Hid (V.heap[w1.heap.size]? = some (.cells #[.slice A' n' cp', .int .i64 c.w1, .int .i64 c.w2, .int .i64 c.a1, .int .i64 c.a2, .int .i64 c.bad] 33 (0, 0))) := Lib.hid (by rw [hV]; exact (heap_alloc_old _ _ (Array.getElem?_eq_some_iff.1 hRb).1).trans hRb)
            have HN : Hid (∀ W, Below V.heap.size V W → Calls Try.prog 7 #[.pointer (some ⟨B, 0, none⟩)] W (RetTk W t.k t.t t.l t.c)) := Lib.hid (fun W hW => by rw [ht]; exact next_at B c W (HM0.out.cur.keep hW))
            have HRN : Hid (∀ W, Below V.heap.size V W → Calls Try.prog 8 #[.agg #[.slice A' n' cp', .int .i64 c.w1, .int .i64 c.w2, .int .i64 c.a1, .int .i64 c.a2, .int .i64 c.bad]] W (RetTk W t.k t.t t.l t.c)) := Lib.hid (fun W hW => by rw [ht]; exact next_say c A' n' cp' W (hRT.keep (below_two' HM0.out.below hW)))
            have HG : Hid (∀ W, Below V.heap.size V W → Calls Try.prog 9 #[.pointer (some ⟨B, 0, none⟩)] W (RetBool W (c.bad == 0))) := Lib.hid (fun W hW => good_any _ _ _ _ W (Fl.of (HM0.out.cur.keep hW)) rfl)
            have hz := (Array.getElem?_eq_some_iff.1 hRb).1
            have hx0 : Below V.heap.size V (wr.alloc (akO a)) := by rw [hV]; exact Below.refl _ _
            have HX0 := Lib.hid hx0
            have HRT := Lib.hid hRT
            clear hRb hRT ha ht hV hx0
            go_wp2_with fail
            go_region_held3 (fun w' => w'.cell? ⟨w1.heap.size, 0, none⟩ = some (.slice A' n' cp') ∧ w'.cell? ⟨w1.heap.size, 1, none⟩ = some (.int .i64 c.w1) ∧ w'.cell? ⟨w1.heap.size, 2, none⟩ = some (.int .i64 c.w2) ∧ w'.cell? ⟨w1.heap.size, 3, none⟩ = some (.int .i64 c.a1) ∧ w'.cell? ⟨w1.heap.size, 4, none⟩ = some (.int .i64 c.a2) ∧ w'.cell? ⟨w1.heap.size, 5, none⟩ = some (.int .i64 c.bad)) (go_keep)
              ((first
                | (go_at_call 7; refine (HN.out _ HX0.out.drew).mono ?_; rintro e x2 ⟨rfl, hb2⟩; have HX2 := Lib.hid (below_two' HX0.out (undrew hb2)); clear hb2; obtain ⟨s0, s1, s2, s3, s4, s5⟩ := cells_6 (block_on HRV.out HX2.out))
                | (go_at_call 8; refine (HRN.out _ HX2.out).mono ?_; rintro e x3 ⟨rfl, hb3⟩; have HX3 := Lib.hid (below_two' HX2.out hb3); clear hb3; obtain ⟨u0, u1, u2, u3, u4, u5⟩ := cells_6 (block_on HRV.out HX3.out))
                | (go_at_call 9; refine (HG.out _ HX3.out).mono ?_; rintro e x4 ⟨rfl, hb4⟩; have HX4 := Lib.hid (below_two' HX3.out hb4); clear hb4; obtain ⟨v0, v1, v2, v3, v4, v5⟩ := cells_6 (block_on HRV.out HX4.out))))
            have M4 := Lib.hid (HM0.out.keep HX4.out)
            have HR4 := Lib.hid (block_on HRV.out HX4.out)
            obtain ⟨k0, k1, k2, k3⟩ := cells_4 M4.out.ask
            clear s0 s1 s2 s3 s4 s5 u0 u1 u2 u3 u4 u5 r0 r1 r2 r3 r4 r5 a0 a1 a2 a3
            clear HX0 HX2 HX3 HX4 HN HRN HG HV HRV HM0 HSt
            have hzA := (Array.getElem?_eq_some_iff.1 M4.out.ask).1
            have hzB := (Array.getElem?_eq_some_iff.1 HR4.out).1
            have hne1 : ¬ wr.heap.size = w1.heap.size := Nat.ne_of_gt hz
            have hne2 : ¬ w1.heap.size = wr.heap.size := Nat.ne_of_lt hz
            by_cases q0 : a.d = 0
            · have e0 : (a.d == 0) = true := by simpa using q0
              obtain ⟨d, hd⟩ : ∃ d, d = take c a.k a.s := ⟨_, rfl⟩
              obtain ⟨r, hr⟩ : ∃ r, r = isB c a.k a.s := ⟨_, rfl⟩
              have HOk1 : Hid (Ok d) := Lib.hid (by rw [hd]; exact HOk.out.take _ _)
              have HR : Hid (∀ W, Below w.heap.size w W → Calls Try.prog 10 #[.agg #[.slice A' n' cp', .int .i64 c.w1, .int .i64 c.w2, .int .i64 c.a1, .int .i64 c.a2, .int .i64 c.bad], .int .i64 a.k, .string a.s] W (RetCurB w W d r)) := Lib.hid (fun W hW => by rw [hd, hr]; exact take_say c a.k a.s A' n' cp' w W HRT.out hW)
              have HP : Hid (∀ y, CurAt y B c → Calls Try.prog 11 #[.pointer (some ⟨B, 0, none⟩), .int .i64 a.k, .string a.s] y (RetAtB y B d r)) := Lib.hid (fun y hy => by rw [hd, hr]; exact take_at B c a.k a.s y hy)
              clear hd hr
              go_wp2_with (go_at_call 10; (with_reducible refine (HR.out _ M4.out.below).mono ?_))
              rintro e x5 ⟨A5, n5, cp5, rfl, hT5, hb5⟩
              have M5 := Lib.hid (M4.out.keep hb5)
              have HT5 := Lib.hid hT5
              have HR5 := Lib.hid (block_on HR4.out hb5)
              clear hT5 hb5 hzA hzB k0 k1 k2 k3 v0 v1 v2 v3 v4 v5
              have hzA := (Array.getElem?_eq_some_iff.1 M5.out.ask).1
              have hzB := (Array.getElem?_eq_some_iff.1 HR5.out).1
              obtain ⟨k0, k1, k2, k3⟩ := cells_4 M5.out.ask
              obtain ⟨v0, v1, v2, v3, v4, v5⟩ := cells_6 HR5.out
              obtain ⟨f0, f1, f2, f3, f4, f5⟩ := free_6 HR5.out
              go_wp2_with (go_at_call 11; (with_reducible refine (HP.out _ ((M5.out.refset HT5.out).alloc _).cur).mono ?_))
              rintro e x6 ⟨rfl, hC6, hb6⟩
              have M6 := Lib.hid (((M5.out.refset HT5.out).alloc _).call hC6 hb6)
              clear hC6 hb6 k0 k1 k2 k3 v0 v1 v2 v3 v4 v5 f0 f1 f2 f3 f4 f5 hzA hzB
              go_wp2_with (go_at_call 22; (with_reducible refine (fault_any _ _ _ _ _ (Fl.of M6.out.cur)).mono ?_))
              rintro e x7 ⟨rfl, hb7⟩
              have M7 := Lib.hid (M6.out.keep hb7)
              clear hb7
              obtain ⟨A7, n7, cp7, hR7, _⟩ := M7.out.ref
              have hz7 := (Array.getElem?_eq_some_iff.1 hR7).1
              obtain ⟨z0, z1, z2, z3, z4, z5⟩ := cells_6 hR7
              clear hR7
              go_wp2_with fail
              go_roundw
              case rel => exact ask_next hlt2 M7.out HOk1.out _
              case measure => simp [intOf]; omega
            have e0 : (a.d == 0) = false := by simpa using q0
            by_cases q1 : a.d = 1
            · have e1 : (a.d == 1) = true := by simpa using q1
              obtain ⟨d, hd⟩ : ∃ d, d = want c a.k a.s := ⟨_, rfl⟩
              have HOk1 : Hid (Ok d) := Lib.hid (by rw [hd]; exact HOk.out.want _ _)
              have HR : Hid (∀ W, Below w.heap.size w W → Calls Try.prog 12 #[.agg #[.slice A' n' cp', .int .i64 c.w1, .int .i64 c.w2, .int .i64 c.a1, .int .i64 c.a2, .int .i64 c.bad], .int .i64 a.k, .string a.s] W (RetCur w W d)) := Lib.hid (fun W hW => by rw [hd]; exact want_say c a.k a.s A' n' cp' w W HRT.out hW)
              have HP : Hid (∀ y, CurAt y B c → Calls Try.prog 13 #[.pointer (some ⟨B, 0, none⟩), .int .i64 a.k, .string a.s] y (RetAt y B d)) := Lib.hid (fun y hy => by rw [hd]; exact want_at B c a.k a.s y hy)
              clear hd
              go_wp2_with (go_at_call 12; (with_reducible refine (HR.out _ M4.out.below).mono ?_))
              rintro e x5 ⟨A5, n5, cp5, rfl, hT5, hb5⟩
              have M5 := Lib.hid (M4.out.keep hb5)
              have HT5 := Lib.hid hT5
              have HR5 := Lib.hid (block_on HR4.out hb5)
              clear hT5 hb5 hzA hzB k0 k1 k2 k3 v0 v1 v2 v3 v4 v5
              have hzA := (Array.getElem?_eq_some_iff.1 M5.out.ask).1
              have hzB := (Array.getElem?_eq_some_iff.1 HR5.out).1
              obtain ⟨k0, k1, k2, k3⟩ := cells_4 M5.out.ask
              obtain ⟨v0, v1, v2, v3, v4, v5⟩ := cells_6 HR5.out
              obtain ⟨f0, f1, f2, f3, f4, f5⟩ := free_6 HR5.out
              go_wp2_with (go_at_call 13; (with_reducible refine (HP.out _ (M5.out.refset HT5.out).cur).mono ?_))
              rintro e x6 ⟨rfl, hC6, hb6⟩
              have M6 := Lib.hid ((M5.out.refset HT5.out).call hC6 hb6)
              clear hC6 hb6 k0 k1 k2 k3 v0 v1 v2 v3 v4 v5 f0 f1 f2 f3 f4 f5 hzA hzB
              go_wp2_with (go_at_call 22; (with_reducible refine (fault_any _ _ _ _ _ (Fl.of M6.out.cur)).mono ?_))
              rintro e x7 ⟨rfl, hb7⟩
              have M7 := Lib.hid (M6.out.keep hb7)
              clear hb7
              obtain ⟨A7, n7, cp7, hR7, _⟩ := M7.out.ref
              have hz7 := (Array.getElem?_eq_some_iff.1 hR7).1
              obtain ⟨z0, z1, z2, z3, z4, z5⟩ := cells_6 hR7
              clear hR7
              go_wp2_with fail
              go_roundw
              case rel => exact ask_next hlt2 M7.out HOk1.out _
              case measure => simp [intOf]; omega
            have e1 : (a.d == 1) = false := by simpa using q1
            by_cases q2 : a.d = 2
            · have e2 : (a.d == 2) = true := by simpa using q2
              obtain ⟨d, hd⟩ : ∃ d, d = nameC c := ⟨_, rfl⟩
              obtain ⟨r, hr⟩ : ∃ r, r = nameS c := ⟨_, rfl⟩
              have HOk1 : Hid (Ok d) := Lib.hid (by rw [hd]; exact HOk.out.nameC)
              have HR : Hid (∀ W, Below w.heap.size w W → Calls Try.prog 14 #[.agg #[.slice A' n' cp', .int .i64 c.w1, .int .i64 c.w2, .int .i64 c.a1, .int .i64 c.a2, .int .i64 c.bad]] W (RetCurS w W d r)) := Lib.hid (fun W hW => by rw [hd, hr]; exact name_say c HOk.out A' n' cp' w W HRT.out hW)
              have HP : Hid (∀ y, CurAt y B c → Calls Try.prog 15 #[.pointer (some ⟨B, 0, none⟩)] y (RetAtS y B d r)) := Lib.hid (fun y hy => by rw [hd, hr]; exact name_at B c HOk.out y hy)
              clear hd hr
              go_wp2_with (go_at_call 14; (with_reducible refine (HR.out _ M4.out.below).mono ?_))
              rintro e x5 ⟨A5, n5, cp5, rfl, hT5, hb5⟩
              have M5 := Lib.hid (M4.out.keep hb5)
              have HT5 := Lib.hid hT5
              have HR5 := Lib.hid (block_on HR4.out hb5)
              clear hT5 hb5 hzA hzB k0 k1 k2 k3 v0 v1 v2 v3 v4 v5
              have hzA := (Array.getElem?_eq_some_iff.1 M5.out.ask).1
              have hzB := (Array.getElem?_eq_some_iff.1 HR5.out).1
              obtain ⟨k0, k1, k2, k3⟩ := cells_4 M5.out.ask
              obtain ⟨v0, v1, v2, v3, v4, v5⟩ := cells_6 HR5.out
              obtain ⟨f0, f1, f2, f3, f4, f5⟩ := free_6 HR5.out
              go_wp2_with (go_at_call 15; (with_reducible refine (HP.out _ ((M5.out.refset HT5.out).alloc _).cur).mono ?_))
              rintro e x6 ⟨rfl, hC6, hb6⟩
              have M6 := Lib.hid (((M5.out.refset HT5.out).alloc _).call hC6 hb6)
              clear hC6 hb6 k0 k1 k2 k3 v0 v1 v2 v3 v4 v5 f0 f1 f2 f3 f4 f5 hzA hzB
              go_wp2_with (go_at_call 22; (with_reducible refine (fault_any _ _ _ _ _ (Fl.of M6.out.cur)).mono ?_))
              rintro e x7 ⟨rfl, hb7⟩
              have M7 := Lib.hid (M6.out.keep hb7)
              clear hb7
              obtain ⟨A7, n7, cp7, hR7, _⟩ := M7.out.ref
              have hz7 := (Array.getElem?_eq_some_iff.1 hR7).1
              obtain ⟨z0, z1, z2, z3, z4, z5⟩ := cells_6 hR7
              clear hR7
              go_wp2_with fail
              go_roundw
              case rel => exact ask_next hlt2 M7.out HOk1.out _
              case measure => simp [intOf]; omega
            have e2 : (a.d == 2) = false := by simpa using q2
            by_cases q3 : a.d = 3
            · have e3 : (a.d == 3) = true := by simpa using q3
              obtain ⟨d, hd⟩ : ∃ d, d = numC c a.n := ⟨_, rfl⟩
              obtain ⟨r, hr⟩ : ∃ r, r = numN c a.n := ⟨_, rfl⟩
              have HOk1 : Hid (Ok d) := Lib.hid (by rw [hd]; exact HOk.out.numC _)
              have HR : Hid (∀ W, Below w.heap.size w W → Calls Try.prog 16 #[.agg #[.slice A' n' cp', .int .i64 c.w1, .int .i64 c.w2, .int .i64 c.a1, .int .i64 c.a2, .int .i64 c.bad], .int .i64 a.n] W (RetCurN w W d r)) := Lib.hid (fun W hW => by rw [hd, hr]; exact number_say c a.n HOk.out A' n' cp' w W HRT.out hW)
              have HP : Hid (∀ y, CurAt y B c → Calls Try.prog 17 #[.pointer (some ⟨B, 0, none⟩), .int .i64 a.n] y (RetAtN y B d r)) := Lib.hid (fun y hy => by rw [hd, hr]; exact number_at B c a.n HOk.out y hy)
              clear hd hr
              go_wp2_with (go_at_call 16; (with_reducible refine (HR.out _ M4.out.below).mono ?_))
              rintro e x5 ⟨A5, n5, cp5, rfl, hT5, hb5⟩
              have M5 := Lib.hid (M4.out.keep hb5)
              have HT5 := Lib.hid hT5
              have HR5 := Lib.hid (block_on HR4.out hb5)
              clear hT5 hb5 hzA hzB k0 k1 k2 k3 v0 v1 v2 v3 v4 v5
              have hzA := (Array.getElem?_eq_some_iff.1 M5.out.ask).1
              have hzB := (Array.getElem?_eq_some_iff.1 HR5.out).1
              obtain ⟨k0, k1, k2, k3⟩ := cells_4 M5.out.ask
              obtain ⟨v0, v1, v2, v3, v4, v5⟩ := cells_6 HR5.out
              obtain ⟨f0, f1, f2, f3, f4, f5⟩ := free_6 HR5.out
              go_wp2_with (go_at_call 17; (with_reducible refine (HP.out _ ((M5.out.refset HT5.out).alloc _).cur).mono ?_))
              rintro e x6 ⟨rfl, hC6, hb6⟩
              have M6 := Lib.hid (((M5.out.refset HT5.out).alloc _).call hC6 hb6)
              clear hC6 hb6 k0 k1 k2 k3 v0 v1 v2 v3 v4 v5 f0 f1 f2 f3 f4 f5 hzA hzB
              go_wp2_with (go_at_call 22; (with_reducible refine (fault_any _ _ _ _ _ (Fl.of M6.out.cur)).mono ?_))
              rintro e x7 ⟨rfl, hb7⟩
              have M7 := Lib.hid (M6.out.keep hb7)
              clear hb7
              obtain ⟨A7, n7, cp7, hR7, _⟩ := M7.out.ref
              have hz7 := (Array.getElem?_eq_some_iff.1 hR7).1
              obtain ⟨z0, z1, z2, z3, z4, z5⟩ := cells_6 hR7
              clear hR7
              go_wp2_with fail
              go_roundw
              case rel => exact ask_next hlt2 M7.out HOk1.out _
              case measure => simp [intOf]; omega
            have e3 : (a.d == 3) = false := by simpa using q3
            by_cases q4 : a.d = 4
            · have e4 : (a.d == 4) = true := by simpa using q4
              have HOk1 := HOk
              obtain ⟨r, hr⟩ : ∃ r, r = isB c a.k a.s := ⟨_, rfl⟩
              have HP : Hid (∀ W, Below x4.heap.size x4 W → Calls Try.prog 18 #[.pointer (some ⟨B, 0, none⟩), .int .i64 a.k, .string a.s] W (RetBool W r)) := Lib.hid (fun W hW => by rw [hr]; exact is_at B c a.k a.s W (M4.out.cur.keep hW))
              have HR : Hid (∀ W, Below x4.heap.size x4 W → Calls Try.prog 19 #[.agg #[.slice A' n' cp', .int .i64 c.w1, .int .i64 c.w2, .int .i64 c.a1, .int .i64 c.a2, .int .i64 c.bad], .int .i64 a.k, .string a.s] W (RetBool W r)) := Lib.hid (fun W hW => by rw [hr]; exact is_say c a.k a.s A' n' cp' W (HRT.out.keep (below_two' M4.out.below hW)))
              clear hr
              have HX4 : Hid (Below x4.heap.size x4 x4) := Lib.hid (Below.refl _ _)
              go_wp2_with fail
              go_region_held3 (fun w' => w'.cell? ⟨w1.heap.size, 0, none⟩ = some (.slice A' n' cp') ∧ w'.cell? ⟨w1.heap.size, 1, none⟩ = some (.int .i64 c.w1) ∧ w'.cell? ⟨w1.heap.size, 2, none⟩ = some (.int .i64 c.w2) ∧ w'.cell? ⟨w1.heap.size, 3, none⟩ = some (.int .i64 c.a1) ∧ w'.cell? ⟨w1.heap.size, 4, none⟩ = some (.int .i64 c.a2) ∧ w'.cell? ⟨w1.heap.size, 5, none⟩ = some (.int .i64 c.bad) ∧ w'.cell? ⟨wr.heap.size, 1, none⟩ = some (.int .i64 a.k) ∧ w'.cell? ⟨wr.heap.size, 2, none⟩ = some (.string a.s)) (go_keep)
                ((first
                  | (go_at_call 18; refine (HP.out _ HX4.out.drew).mono ?_; rintro e x5 ⟨rfl, hb5⟩; have HX5 := Lib.hid (undrew hb5); clear hb5; obtain ⟨s0, s1, s2, s3, s4, s5⟩ := cells_6 (block_on HR4.out HX5.out); obtain ⟨y0, y1, y2, y3⟩ := cells_4 (block_on M4.out.ask HX5.out))
                  | (go_at_call 19; refine (HR.out _ HX5.out).mono ?_; rintro e x6 ⟨rfl, hb6⟩; have HX6 := Lib.hid (below_two' HX5.out hb6); clear hb6; obtain ⟨u0, u1, u2, u3, u4, u5⟩ := cells_6 (block_on HR4.out HX6.out); obtain ⟨p0, p1, p2, p3⟩ := cells_4 (block_on M4.out.ask HX6.out))))
              have M6 := Lib.hid (M4.out.keep HX6.out)
              clear k0 k1 k2 k3 v0 v1 v2 v3 v4 v5 s0 s1 s2 s3 s4 s5 y0 y1 y2 y3 u0 u1 u2 u3 u4 u5 p0 p1 p2 p3 hzA hzB
              go_wp2_with (go_at_call 22; (with_reducible refine (fault_any _ _ _ _ _ (Fl.of M6.out.cur)).mono ?_))
              rintro e x7 ⟨rfl, hb7⟩
              have M7 := Lib.hid (M6.out.keep hb7)
              clear hb7
              obtain ⟨A7, n7, cp7, hR7, _⟩ := M7.out.ref
              have hz7 := (Array.getElem?_eq_some_iff.1 hR7).1
              obtain ⟨z0, z1, z2, z3, z4, z5⟩ := cells_6 hR7
              clear hR7
              go_wp2_with fail
              go_roundw
              case rel => exact ask_next hlt2 M7.out HOk1.out _
              case measure => simp [intOf]; omega
            have e4 : (a.d == 4) = false := by simpa using q4
            obtain ⟨d, hd⟩ : ∃ d, d = fail c a.n := ⟨_, rfl⟩
            have HOk1 : Hid (Ok d) := Lib.hid (by rw [hd]; exact HOk.out.fail _)
            have HR : Hid (∀ W, Below w.heap.size w W → Calls Try.prog 20 #[.agg #[.slice A' n' cp', .int .i64 c.w1, .int .i64 c.w2, .int .i64 c.a1, .int .i64 c.a2, .int .i64 c.bad], .int .i64 a.n] W (RetCur w W d)) := Lib.hid (fun W hW => by rw [hd]; exact fail_say c a.n A' n' cp' w W HRT.out hW)
            have HP : Hid (∀ y, CurAt y B c → Calls Try.prog 21 #[.pointer (some ⟨B, 0, none⟩), .int .i64 a.n] y (RetAt y B d)) := Lib.hid (fun y hy => by rw [hd]; exact fail_at B c a.n y hy)
            clear hd
            go_wp2_with (go_at_call 20; (with_reducible refine (HR.out _ M4.out.below).mono ?_))
            rintro e x5 ⟨A5, n5, cp5, rfl, hT5, hb5⟩
            have M5 := Lib.hid (M4.out.keep hb5)
            have HT5 := Lib.hid hT5
            have HR5 := Lib.hid (block_on HR4.out hb5)
            clear hT5 hb5 hzA hzB k0 k1 k2 k3 v0 v1 v2 v3 v4 v5
            have hzA := (Array.getElem?_eq_some_iff.1 M5.out.ask).1
            have hzB := (Array.getElem?_eq_some_iff.1 HR5.out).1
            obtain ⟨k0, k1, k2, k3⟩ := cells_4 M5.out.ask
            obtain ⟨v0, v1, v2, v3, v4, v5⟩ := cells_6 HR5.out
            obtain ⟨f0, f1, f2, f3, f4, f5⟩ := free_6 HR5.out
            go_wp2_with (go_at_call 21; (with_reducible refine (HP.out _ (M5.out.refset HT5.out).cur).mono ?_))
            rintro e x6 ⟨rfl, hC6, hb6⟩
            have M6 := Lib.hid ((M5.out.refset HT5.out).call hC6 hb6)
            clear hC6 hb6 k0 k1 k2 k3 v0 v1 v2 v3 v4 v5 f0 f1 f2 f3 f4 f5 hzA hzB
            go_wp2_with (go_at_call 22; (with_reducible refine (fault_any _ _ _ _ _ (Fl.of M6.out.cur)).mono ?_))
            rintro e x7 ⟨rfl, hb7⟩
            have M7 := Lib.hid (M6.out.keep hb7)
            clear hb7
            obtain ⟨A7, n7, cp7, hR7, _⟩ := M7.out.ref
            have hz7 := (Array.getElem?_eq_some_iff.1 hR7).1
            obtain ⟨z0, z1, z2, z3, z4, z5⟩ := cells_6 hR7
            clear hR7
            go_wp2_with fail
            go_roundw
            case rel => exact ask_next hlt2 M7.out HOk1.out _
            case measure => simp [intOf]; omega
          · obtain ⟨A', n', cp', hRb, hRT⟩ := HSt.out.ref
            obtain ⟨r0, r1, r2, r3, r4, r5⟩ := cells_6 hRb
            obtain ⟨t, ht⟩ : ∃ t, t = next c := ⟨_, rfl⟩
            have HN : Hid (∀ W, Below wr.heap.size wr W → Calls Try.prog 7 #[.pointer (some ⟨B, 0, none⟩)] W (RetTk W t.k t.t t.l t.c)) := Lib.hid (fun W hW => by rw [ht]; exact next_at B c W (HSt.out.cur.keep hW))
            have HRN : Hid (∀ W, Below wr.heap.size wr W → Calls Try.prog 8 #[.agg #[.slice A' n' cp', .int .i64 c.w1, .int .i64 c.w2, .int .i64 c.a1, .int .i64 c.a2, .int .i64 c.bad]] W (RetTk W t.k t.t t.l t.c)) := Lib.hid (fun W hW => by rw [ht]; exact next_say c A' n' cp' W (hRT.keep (below_two' HSt.out.below hW)))
            have hz := (Array.getElem?_eq_some_iff.1 hRb).1
            have HRV := Lib.hid hRb
            have HX0 : Hid (Below wr.heap.size wr wr) := Lib.hid (Below.refl _ _)
            clear hRb hRT ht
            go_wp2_with fail
            go_region_held3 (fun w' => w'.cell? ⟨w1.heap.size, 0, none⟩ = some (.slice A' n' cp') ∧ w'.cell? ⟨w1.heap.size, 1, none⟩ = some (.int .i64 c.w1) ∧ w'.cell? ⟨w1.heap.size, 2, none⟩ = some (.int .i64 c.w2) ∧ w'.cell? ⟨w1.heap.size, 3, none⟩ = some (.int .i64 c.a1) ∧ w'.cell? ⟨w1.heap.size, 4, none⟩ = some (.int .i64 c.a2) ∧ w'.cell? ⟨w1.heap.size, 5, none⟩ = some (.int .i64 c.bad)) (go_keep)
              ((first
                | (go_at_call 7; refine (HN.out _ HX0.out.drew).mono ?_; rintro e x2 ⟨rfl, hb2⟩; have HX2 := Lib.hid (undrew hb2); clear hb2; obtain ⟨s0, s1, s2, s3, s4, s5⟩ := cells_6 (block_on HRV.out HX2.out))
                | (go_at_call 8; refine (HRN.out _ HX2.out).mono ?_; rintro e x3 ⟨rfl, hb3⟩; have HX3 := Lib.hid (below_two' HX2.out hb3); clear hb3; obtain ⟨u0, u1, u2, u3, u4, u5⟩ := cells_6 (block_on HRV.out HX3.out))
                | (go_at_call 5; refine (HAw.out _).mono ?_; rintro e x4 ⟨rfl, hb4⟩; have HX4 := Lib.hid (below_two' HX3.out hb4); clear hb4; obtain ⟨v0, v1, v2, v3, v4, v5⟩ := cells_6 (block_on HRV.out HX4.out))))
            have HE := Lib.hid (below_two' HSt.out.below HX4.out)
            clear s0 s1 s2 s3 s4 s5 u0 u1 u2 u3 u4 u5 r0 r1 r2 r3 r4 r5 v0 v1 v2 v3 v4 v5
            go_wp2_with fail
            go_ret
            exact ⟨rfl, HE.out⟩
end Go.Proofs.Ytoegpieomnpifaa
