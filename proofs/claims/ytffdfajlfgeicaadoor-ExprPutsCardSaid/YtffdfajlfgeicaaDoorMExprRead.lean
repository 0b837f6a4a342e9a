/- ExprRead, joined. -/
import Derived.Test.YtffdfajlfgeicaaDoorMExprPart
import Derived.Test.YtffdfajlfgeicaaDoorMTermA
namespace Go.Proofs.YtffdfajlfgeicaaDoor
open Go.RowKit CurSpec TermSpec ExprSpec NamesSpec
set_option maxRecDepth 100000

def RetRead (W : World) (B : Nat) (p : Pa) (e : Ending) (w' : World) : Prop := ∃ A n cp, e = .returned (.slice A n cp) ∧ CurAt w' B p.1 ∧ Tms w' (.slice A n cp) p.2 ∧ n = p.2.length ∧ W.grownBy w' (some B) ∧ (Value.slice A n cp).ownBlock ≠ some B
theorem cap_chk {c : Cur} {x l : List Tm} (h : CapD c [] x l) (h0 : c.bad = 0) : chk l = chk x ∧ (chk x = 0 → l = x) := by
  have h2 := h.2 h0
  split at h2
  · rw [List.nil_append] at h2
    rw [h2]
    exact ⟨rfl, fun _ => rfl⟩
  · rename_i h3
    simp only [List.length_nil, Nat.zero_add] at h3
    have e1 : chk l = 8 := chk_full (by omega)
    have e2 : chk x = 8 := chk_full (by omega)
    rw [e1, e2]
    exact ⟨rfl, fun h => absurd h (by decide)⟩
theorem readP_cur {f : Nat} {c : Cur} {l : List Tm} (h : CapD (S f c 1).1 [] (S f c 1).2 l) : fail (S f c 1).1 (chk l) = (readP f c).1 := by
  unfold readP
  by_cases h0 : (S f c 1).1.bad = 0
  · rw [if_pos h0, (cap_chk h h0).1]
  · rw [if_neg h0, fail_dead _ h0]
theorem chk_cases (l : List Tm) : chk l = 0 ∨ chk l = 1 ∨ chk l = 6 ∨ chk l = 8 := by
  unfold chk
  repeat' split
  all_goals simp
theorem fail_good {c : Cur} {e : Int} (h : (fail c e).bad = 0) : c.bad = 0 ∧ e = 0 := by
  by_cases h0 : c.bad = 0
  · by_cases he : e = 0
    · exact ⟨h0, he⟩
    · rw [fail_yes h0 he] at h; exact absurd h he
  · rw [fail_dead e h0] at h; exact absurd h h0
theorem readP_list {f : Nat} {c : Cur} {l : List Tm} (h : CapD (S f c 1).1 [] (S f c 1).2 l) :
    ((fail (S f c 1).1 (chk l)).bad = 0 → (readP f c).2 = l) ∧ ((fail (S f c 1).1 (chk l)).bad ≠ 0 → (readP f c).2 = []) := by
  refine ⟨fun hb => ?_, fun hb => ?_⟩
  · obtain ⟨h0, he⟩ := fail_good hb
    have h2 := cap_chk h h0
    unfold readP
    rw [if_pos h0, if_pos (by rw [← h2.1]; exact he), h2.2 (by rw [← h2.1]; exact he)]
  · unfold readP
    by_cases h0 : (S f c 1).1.bad = 0
    · rw [if_pos h0]
      have h2 := cap_chk h h0
      refine if_neg (fun he => hb ?_)
      rw [h2.1, he, fail_zero]
      exact h0
    · rw [if_neg h0]
theorem tms_nil (w : World) : Tms w (.slice none 0 0) [] := ⟨0, rfl, Rdk.nil 3 w⟩
theorem rd_tms {w : World} {R B : Nat} {A : Option Addr} {n cp : Nat} {c : Cur} {l : List Tm} (h : RdAt w R B (.slice A n cp) c l) : Tms w (.slice A n cp) l ∧ n = l.length := by
  have := Rdk.own h.own
  obtain ⟨A', c', heq, _⟩ := this
  cases heq
  exact ⟨⟨_, rfl, Rdk.own h.own⟩, rfl⟩
theorem hold_new {w x : World} {o : Obj} {B : Nat} {v' : Value} (h : Hold w.heap.size B (.slice none 0 0) v' (w.alloc o) x) : w.grownBy x (some B) := by
  have hz := h.size
  rw [World.size_alloc] at hz
  exact ⟨h.os, h.tape, h.output, by omega, fun i hi hn => (h.block i (by rw [World.size_alloc]; omega) (by simpa using hn) (by omega) (by simp [Value.ownBlock])).trans (heap_alloc_old _ _ hi)⟩

set_option maxHeartbeats 4000000 in
theorem read_at (B : Nat) (c : Cur) (f : Nat) (w : World) (hs : SignsIn w) (h : CurAt w B c) (ok : Ok c) (hf : Fit f c) :
    Calls Tryd.prog 12 #[.pointer (some ⟨B, 0, none⟩)] w (RetRead w B (readP f c)) := by
  have hB := h.lt
  have h0 : RdAt (w.alloc (.cells #[.pointer (some ⟨B, 0, none⟩), .slice none 0 0] 60)) w.heap.size B (.slice none 0 0) c [] :=
    ⟨h.alloc _, heap_alloc_new _ _, ⟨rfl, .inl ⟨rfl, rfl⟩⟩, hB, by simp, by intro t ht; cases ht⟩
  have HPT := Lib.hid (part_ok f w.heap.size B (.slice none 0 0) c [] 1 _ (hs.alloc _) h0 ok hf)
  have HRL := Lib.hid (fun (l : List Tm) (hc : CapD (S f c 1).1 [] (S f c 1).2 l) => And.intro (readP_cur hc) (readP_list hc))
  obtain ⟨D, hD⟩ : ∃ D, D = S f c 1 := ⟨_, rfl⟩
  obtain ⟨P, hP⟩ : ∃ P, P = readP f c := ⟨_, rfl⟩
  rw [← hD] at HPT HRL
  rw [← hP] at HRL ⊢
  clear hD hP hs h ok hf h0 hB
  go_enter Tryd.func12, Tryd.ntmps12
  go_wp2_with (go_at_call 24; (with_reducible refine HPT.out.mono ?_))
  rintro e x1 ⟨v, l, rfl, hr, hc, hh⟩
  obtain ⟨A, cp, rfl⟩ := own_shape hr.own
  obtain ⟨n, hn⟩ : ∃ n, n = l.length := ⟨_, rfl⟩
  rw [← hn] at hr hh
  have ht := rd_tms hr
  have HC := Lib.hid (check_any A n cp l hn (by have := hr.few; omega) hr.small x1.drew ht.1)
  have HN := Lib.hid hn
  have HH := Lib.hid hh
  have HR := Lib.hid hr
  have HT := Lib.hid ht.1
  have HL := Lib.hid (HRL.out l hc)
  obtain ⟨r0, r1⟩ := cells_2 hr.blk
  obtain ⟨ck, hck⟩ : ∃ ck, ck = chk l := ⟨_, rfl⟩
  rw [← hck] at HC HL
  have HFL : Hid (∀ W, Below x1.drew.heap.size x1.drew W → Calls Tryd.prog 25 #[.pointer (some ⟨B, 0, none⟩), .int .i64 ck] W (RetAt W B (fail D.1 ck))) := Lib.hid (fun W hW => fail_at B D.1 ck W (hr.drew.cur.keep hW))
  have HCL : Hid (∀ W, Below x1.drew.heap.size x1.drew W → RdAt W w.heap.size B (.slice A n cp) D.1 l) := Lib.hid (fun W hW => hr.drew.keep hW)
  clear hr hc hh hn ht hck
  go_wp2_with fail
  go_region_law (first
    | (go_simp; go_at_call 26; (with_reducible refine HC.out.mono ?_); rintro e x2 ⟨rfl, hb2⟩; have HB2 := Lib.hid hb2; clear hb2; obtain ⟨s0, s1⟩ := cells_2 (HCL.out _ HB2.out).blk)
    | (go_simp; go_at_call 25; (with_reducible refine (HFL.out _ HB2.out).mono ?_); rintro e x3 ⟨rfl, hc3, hb3⟩; have HE3 := Lib.hid (And.intro hc3 hb3); clear hc3 hb3; obtain ⟨t0, t1⟩ := cells_2 ((HCL.out _ HB2.out).but HE3.out.2 HE3.out.1).blk))
  all_goals
    have HR3 := Lib.hid ((HCL.out _ HB2.out).but HE3.out.2 HE3.out.1)
    have HO3 := Lib.hid (((HH.out.trans (Hold.of_below _ (((Below.refl _ _).drew).trans (HB2.out.mono (Nat.le_refl _))))).trans (Hold.of_but _ HE3.out.2)))
    cases hg : (fail D.1 ck).bad == 0 with
    | true =>
      have HG := Lib.hid (fun W hW => good_any _ _ _ _ W ((Fl.of HE3.out.1).keep hW) (b := true) hg)
      have HX := Lib.hid (HL.out.2.1 (by simpa using hg))
      clear hg
      go_wp2_with (go_at_call 27; (with_reducible refine (HG.out _ (Below.refl _ _)).mono ?_))
      rintro e x4 ⟨rfl, hb4⟩
      have HR4 := Lib.hid (HR3.out.keep hb4)
      have HO4 := Lib.hid (HO3.out.trans (Hold.of_below _ hb4))
      obtain ⟨u0, u1⟩ := cells_2 HR4.out.blk
      clear hb4
      go_wp2_with fail
      go_ret
      refine ⟨A, n, cp, rfl, ?_, ?_, ?_, hold_new HO4.out, fun e => by have := (own_block_bd HR4.out.own B e).1; have := HR4.out.lt; omega⟩
      · rw [← HL.out.1]; exact HR4.out.cur
      · rw [HX.out]; have hnl := HN.out; subst hnl; exact (rd_tms HR4.out).1
      · rw [HX.out]; exact HN.out
    | false =>
      have HG := Lib.hid (fun W hW => good_any _ _ _ _ W ((Fl.of HE3.out.1).keep hW) (b := false) hg)
      have HX := Lib.hid (HL.out.2.2 (by simpa using hg))
      clear hg
      go_wp2_with (go_at_call 27; (with_reducible refine (HG.out _ (Below.refl _ _)).mono ?_))
      rintro e x4 ⟨rfl, hb4⟩
      have HR4 := Lib.hid (HR3.out.keep hb4)
      have HO4 := Lib.hid (HO3.out.trans (Hold.of_below _ hb4))
      clear hb4
      go_wp2_with fail
      go_ret
      refine ⟨none, 0, 0, rfl, ?_, ?_, ?_, hold_new HO4.out, by simp [Value.ownBlock]⟩
      · rw [← HL.out.1]; exact HR4.out.cur
      · rw [HX.out]; exact tms_nil _
      · rw [HX.out]; rfl
end Go.Proofs.YtffdfajlfgeicaaDoor
