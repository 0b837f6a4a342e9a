/- ScanNext, ScanRead, ScanToks, ExprParse, joined. -/
import Derived.Test.YtobpcpfomdblgaaGreatDoorMTransPuts08
import Derived.RegionTactic
import Derived.ChangeAlike
import Derived.Deep.LoopGhost
import Derived.Test.YtobpcpfomdblgaaGreatDoorMTransPuts07
namespace Go.Proofs.YtobpcpfomdblgaaGreatDoor
open Go.RowKit ScanSpec
set_option maxRecDepth 100000

/-- Block B holds a reader: what is left, the line and the byte. -/
def RdrAt (w : World) (B : Nat) (r : ByteArray) (a b : Int) : Prop := w.heap[B]? = some (.cells #[.string r, .int .i64 a, .int .i64 b] 66 (0, 0))
theorem RdrAt.lt {w : World} {B : Nat} {r : ByteArray} {a b : Int} (h : RdrAt w B r a b) : B < w.heap.size := (Array.getElem?_eq_some_iff.1 h).1
def PassPost (w : World) (B : Nat) (r : ByteArray) (n : Nat) (a b : Int) (e : Ending) (w' : World) : Prop := e = .returned (.tuple #[]) ∧ RdrAt w' B (r.extract n r.size) a (b + n) ∧ w.grownBy w' (some B)
set_option maxHeartbeats 1000000 in
theorem pass_any (B : Nat) (r : ByteArray) (n : Nat) (a b : Int) (w : World) (h : RdrAt w B r a b) (hn : n ≤ r.size) (hr : r.size ≤ 9223372036854775807) (hb0 : 0 ≤ b) (hb : b + n ≤ 9223372036854775807) :
    Calls Tryz.prog 59 #[.pointer (some ⟨B, 0, none⟩), .int .i64 n] w (PassPost w B r n a b) := by
  have hI : (n : Int) ≤ (r.size : Int) := by omega
  have h1 : RdrAt (w.setCell ⟨B, 0, none⟩ (.string (r.extract n r.size))) B (r.extract n r.size) a b := by
    have := block_setCell' h 0 (.string (r.extract n r.size))
    exact this
  have h2 : RdrAt ((w.setCell ⟨B, 0, none⟩ (.string (r.extract n r.size))).setCell ⟨B, 2, none⟩ (.int .i64 (b + n))) B (r.extract n r.size) a (b + n) := by
    have := block_setCell' h1 2 (.int .i64 (b + n))
    exact this
  have c0 : w.cell? ⟨B, 0, none⟩ = some (.string r) := cell_of_block' h (i := 0) rfl
  have f0 := free_of_block' h 0
  have c2 : (w.setCell ⟨B, 0, none⟩ (.string (r.extract n r.size))).cell? ⟨B, 2, none⟩ = some (.int .i64 b) := cell_of_block' h1 (i := 2) rfl
  have f2 := free_of_block' h1 2
  have HR : Hid (PassPost w B r n a b (.returned (.tuple #[])) ((w.setCell ⟨B, 0, none⟩ (.string (r.extract n r.size))).setCell ⟨B, 2, none⟩ (.int .i64 (b + n)))) :=
    Lib.hid ⟨rfl, h2, but_set (but_set (but_refl w _) 0 _) 2 _⟩
  clear h h1 h2
  go_enter Tryz.func59, Tryz.ntmps59
  go_wp2_with fail
  go_end0
  exact HR.out

/-- The reader stands at a place of the text. -/
def StandsAt (w : World) (B : Nat) (s : ByteArray) (j : Nat) : Prop := RdrAt w B (s.extract j s.size) (pos s.data.toList j).1 (pos s.data.toList j).2
theorem stands_on {w : World} {B : Nat} {s r : ByteArray} {j n : Nat} {a b : Int} (h : RdrAt w B (r.extract n r.size) a (b + n)) (hr : r = s.extract j s.size) (hp : pos s.data.toList (j + n) = (a, b + n)) : StandsAt w B s (j + n) := by
  subst hr
  rw [extract_extract] at h
  unfold StandsAt
  rw [hp]
  exact h
def SkipRel (w : World) (B : Nat) (s : ByteArray) (i k : Nat) (wr : World) : Prop :=
  ∃ j, j ≤ s.size ∧ k = s.size - j ∧ gap s.data.toList j = gap s.data.toList i ∧ StandsAt wr B s j ∧ w.grownBy wr (some B)
def SkipPost (w : World) (B : Nat) (s : ByteArray) (i : Nat) (e : Ending) (w' : World) : Prop := e = .returned (.tuple #[]) ∧ StandsAt w' B s (gap s.data.toList i) ∧ w.grownBy w' (some B)
theorem skip_stop {w wr : World} {B i j k : Nat} {s : ByteArray} (_hk : k = s.size - j) (hg : gap s.data.toList j = gap s.data.toList i) (hR : StandsAt wr B s j) (hb : w.grownBy wr (some B)) (h4 : ¬ cls s.data.toList j = 4) (h5 : ¬ cls s.data.toList j = 5) :
    SkipPost w B s i (.returned (.tuple #[])) wr := by
  rw [gap_stop h4 h5] at hg
  exact ⟨rfl, hg ▸ hR, hb⟩
theorem skip_blank {w wr w2 : World} {B i j k : Nat} {s r : ByteArray} {a b : Int} (hj : j < s.size) (_hk : k = s.size - j) (hg : gap s.data.toList j = gap s.data.toList i) (hr : r = s.extract j s.size) (ha : (pos s.data.toList j) = (a, b)) (hb : w.grownBy wr (some B))
    (h4 : cls s.data.toList j = 4) (h10 : ∀ c, s.data.toList[j]? = some c → c.toNat ≠ 10) (h : RdrAt w2 B (r.extract 1 r.size) a (b + (1 : Nat))) (hb2 : wr.grownBy w2 (some B)) : SkipRel w B s i (s.size - (j + 1)) w2 := by
  refine ⟨j + 1, by omega, rfl, (gap_blank h4).trans hg, stands_on h hr ?_, but_trans hb hb2⟩
  have hc := byte_at' s j hj
  rw [pos_next hc, if_neg (h10 _ hc), ha]; rfl
theorem skip_line {w wr w2 : World} {B i j k : Nat} {s r : ByteArray} {a b : Int} (hj : j < s.size) (_hk : k = s.size - j) (hg : gap s.data.toList j = gap s.data.toList i) (hr : r = s.extract j s.size) (ha : (pos s.data.toList j) = (a, b)) (hb : w.grownBy wr (some B))
    (h4 : cls s.data.toList j = 4) (h10 : ∀ c, s.data.toList[j]? = some c → c.toNat = 10) (h : RdrAt w2 B (r.extract 1 r.size) (a + 1) 1) (hb2 : wr.grownBy w2 (some B)) : SkipRel w B s i (s.size - (j + 1)) w2 := by
  refine ⟨j + 1, by omega, rfl, (gap_blank h4).trans hg, ?_, but_trans hb hb2⟩
  have hc := byte_at' s j hj
  unfold StandsAt
  rw [pos_next hc, if_pos (h10 _ hc), ha]
  subst hr
  rw [extract_extract] at h
  exact h
theorem skip_remark {w wr w2 : World} {B i j k n : Nat} {s r : ByteArray} {a b : Int} (hj : j < s.size) (hk : k = s.size - j) (hg : gap s.data.toList j = gap s.data.toList i) (hr : r = s.extract j s.size) (ha : (pos s.data.toList j) = (a, b)) (hb : w.grownBy wr (some B))
    (h5 : cls s.data.toList j = 5) (hn : n = run notNl r.data.toList) (h : RdrAt w2 B (r.extract n r.size) a (b + n)) (hb2 : wr.grownBy w2 (some B)) : SkipRel w B s i (s.size - (j + n)) w2 ∧ s.size - (j + n) < k := by
  have h1 := gap_past h5
  have h2 := cls_5_run h5
  have e : run notNl (s.data.toList.drop j) = n := by rw [hn, hr, extract_drop]
  rw [e] at h1 h2
  have hle := run_le notNl (s.data.toList.drop j)
  rw [e, List.length_drop, size_list'] at hle
  exact ⟨⟨j + n, by omega, rfl, h1.1.trans hg, stands_on h hr (by rw [h1.2, ha]), but_trans hb hb2⟩, by omega⟩

set_option maxHeartbeats 4000000 in
theorem skip_any (B i : Nat) (s : ByteArray) (w : World) (hi : i ≤ s.size) (hs : s.size ≤ 9223372036854775800) (h : StandsAt w B s i) : Calls Tryz.prog 57 #[.pointer (some ⟨B, 0, none⟩)] w (SkipPost w B s i) := by
  have HS := Lib.hid h
  clear h
  go_enter Tryz.func57, Tryz.ntmps57
  go_wp2_with fail
  go_loopg [6] (s.size - i) (fun k u wr => SkipRel w B s i k wr)
  case atStart => exact ⟨i, hi, rfl, rfl, HS.out, but_refl _ _⟩
  case round =>
    obtain ⟨j, hj, hk, hg, hR, hb⟩ := hrel
    have hpb := pos_bd s.data.toList j
    obtain ⟨a, ha⟩ : ∃ a, a = (pos s.data.toList j).1 := ⟨_, rfl⟩
    obtain ⟨b, hbb⟩ : ∃ b, b = (pos s.data.toList j).2 := ⟨_, rfl⟩
    have HA : Hid (pos s.data.toList j = (a, b)) := Lib.hid (by rw [ha, hbb])
    rw [← ha, ← hbb] at hpb
    obtain ⟨p1, p2, p3, p4⟩ := hpb
    obtain ⟨r, hr⟩ : ∃ r, r = s.extract j s.size := ⟨_, rfl⟩
    have hsz : r.size = s.size - j := by rw [hr, extract_size']
    have HR : Hid (RdrAt wr B r a b) := Lib.hid (by have := hR; unfold StandsAt at this; rwa [← hr, ← ha, ← hbb] at this)
    have c0 : wr.cell? ⟨B, 0, none⟩ = some (.string r) := cell_of_block' HR.out (i := 0) rfl
    have HSt := Lib.hid hR
    have HG := Lib.hid hg
    have HK := Lib.hid hk
    have HB := Lib.hid hb
    have HRr := Lib.hid hr
    clear ha hbb hR hg hk hb
    by_cases hlt : j < s.size
    · have hrs : 0 < r.size := by omega
      have hrs2 : r.size ≤ 9223372036854775800 := by omega
      have hne := txt_ne hrs
      have hb0 : s.data.toList[j]? = some r[0] := by
        have := byte_at' r 0 hrs
        rw [← this]
        subst hr
        rw [extract_drop, List.getElem?_drop]; rfl
      have HB0 := Lib.hid hb0
      have hcl := Lib.hid (cls_some hb0)
      have hsj : r.size + j ≤ s.size := by omega
      clear hb0 hr hsz
      have hv := clsB_val r[0] _ rfl
      rcases hv with ⟨h1, h2, hc⟩ | ⟨h1, h2, hc⟩ | ⟨h1, hc⟩ | ⟨h1, hc⟩ | ⟨h1, hc⟩ | ⟨h1, n1, n2, n3, n4, n5, n6, hc⟩
      · have e32 : ((r[0].toNat : Int) == 32) = false := by simp; omega
        have e9 : ((r[0].toNat : Int) == 9) = false := by simp; omega
        have e13 : ((r[0].toNat : Int) == 13) = false := by simp; omega
        have e10 : ((r[0].toNat : Int) == 10) = false := by simp; omega
        have e35 : ((r[0].toNat : Int) == 35) = false := by simp; omega
        clear h1 h2
        have HS2 := Lib.hid (skip_stop HK.out HG.out HSt.out HB.out (by rw [hcl.out, hc]; decide) (by rw [hcl.out, hc]; decide))
        clear hc hcl
        go_wp2_with fail
        refine bodyPost_ret (results_none rfl _ _ _) rfl ?_
        exact HS2.out
      · have e32 : ((r[0].toNat : Int) == 32) = false := by simp; omega
        have e9 : ((r[0].toNat : Int) == 9) = false := by simp; omega
        have e13 : ((r[0].toNat : Int) == 13) = false := by simp; omega
        have e10 : ((r[0].toNat : Int) == 10) = false := by simp; omega
        have e35 : ((r[0].toNat : Int) == 35) = false := by simp; omega
        clear h1 h2
        have HS2 := Lib.hid (skip_stop HK.out HG.out HSt.out HB.out (by rw [hcl.out, hc]; decide) (by rw [hcl.out, hc]; decide))
        clear hc hcl
        go_wp2_with fail
        refine bodyPost_ret (results_none rfl _ _ _) rfl ?_
        exact HS2.out
      · have e32 : ((r[0].toNat : Int) == 32) = false := by simp; omega
        have e9 : ((r[0].toNat : Int) == 9) = false := by simp; omega
        have e13 : ((r[0].toNat : Int) == 13) = false := by simp; omega
        have e10 : ((r[0].toNat : Int) == 10) = false := by simp; omega
        have e35 : ((r[0].toNat : Int) == 35) = false := by simp; omega
        clear h1
        have HS2 := Lib.hid (skip_stop HK.out HG.out HSt.out HB.out (by rw [hcl.out, hc]; decide) (by rw [hcl.out, hc]; decide))
        clear hc hcl
        go_wp2_with fail
        refine bodyPost_ret (results_none rfl _ _ _) rfl ?_
        exact HS2.out
      · rcases h1 with h1 | h1 | h1 | h1
        · have e32 : ((r[0].toNat : Int) == 32) = true := by simp; omega
          have HC := Lib.hid (fun w h => pass_any B r 1 a b w h (by omega) (by omega) (by omega) (by omega))
          have HCl : Hid (cls s.data.toList j = 4 ∧ ∀ c, s.data.toList[j]? = some c → c.toNat ≠ 10) := Lib.hid ⟨hcl.out.trans hc, fun c h => by rw [HB0.out] at h; cases h; omega⟩
          clear hc h1 hcl
          go_wp2_with fail
          refine (HC.out _ HR.out).mono ?_
          rintro e w2 ⟨rfl, hR2, hb2⟩
          have HN := Lib.hid (skip_blank hlt HK.out HG.out HRr.out HA.out HB.out HCl.out.1 HCl.out.2 hR2 hb2)
          have HM : Hid (s.size - (j + 1) < gk) := Lib.hid (by have := HK.out; omega)
          clear hR2 hb2
          go_wp2_with fail
          go_roundg (s.size - (j + 1))
          case rel => exact HN.out
          case measure => exact HM.out
        · have e32 : ((r[0].toNat : Int) == 32) = false := by simp; omega
          have e9 : ((r[0].toNat : Int) == 9) = true := by simp; omega
          have HC := Lib.hid (fun w h => pass_any B r 1 a b w h (by omega) (by omega) (by omega) (by omega))
          have HCl : Hid (cls s.data.toList j = 4 ∧ ∀ c, s.data.toList[j]? = some c → c.toNat ≠ 10) := Lib.hid ⟨hcl.out.trans hc, fun c h => by rw [HB0.out] at h; cases h; omega⟩
          clear hc h1 hcl
          go_wp2_with fail
          refine (HC.out _ HR.out).mono ?_
          rintro e w2 ⟨rfl, hR2, hb2⟩
          have HN := Lib.hid (skip_blank hlt HK.out HG.out HRr.out HA.out HB.out HCl.out.1 HCl.out.2 hR2 hb2)
          have HM : Hid (s.size - (j + 1) < gk) := Lib.hid (by have := HK.out; omega)
          clear hR2 hb2
          go_wp2_with fail
          go_roundg (s.size - (j + 1))
          case rel => exact HN.out
          case measure => exact HM.out
        · have e32 : ((r[0].toNat : Int) == 32) = false := by simp; omega
          have e9 : ((r[0].toNat : Int) == 9) = false := by simp; omega
          have e13 : ((r[0].toNat : Int) == 13) = false := by simp; omega
          have e10 : ((r[0].toNat : Int) == 10) = true := by simp; omega
          have HC := Lib.hid (fun w h => pass_any B r 1 a b w h (by omega) (by omega) (by omega) (by omega))
          have HCl : Hid (cls s.data.toList j = 4 ∧ ∀ c, s.data.toList[j]? = some c → c.toNat = 10) := Lib.hid ⟨hcl.out.trans hc, fun c h => by rw [HB0.out] at h; cases h; omega⟩
          clear hc h1 hcl
          go_wp2_with fail
          refine (HC.out _ HR.out).mono ?_
          rintro e w2 ⟨rfl, hR2, hb2⟩
          have q1 : RdrAt (w2.setCell ⟨B, 1, none⟩ (.int .i64 (a + 1))) B (r.extract 1 r.size) (a + 1) (b + (1 : Nat)) := block_setCell' hR2 1 _
          have q2 : RdrAt ((w2.setCell ⟨B, 1, none⟩ (.int .i64 (a + 1))).setCell ⟨B, 2, none⟩ (.int .i64 1)) B (r.extract 1 r.size) (a + 1) 1 := block_setCell' q1 2 _
          have d1 : w2.cell? ⟨B, 1, none⟩ = some (.int .i64 a) := cell_of_block' hR2 (i := 1) rfl
          have d2 : w2.cell? ⟨B, 2, none⟩ = some (.int .i64 (b + (1 : Nat))) := cell_of_block' hR2 (i := 2) rfl
          have g1 := free_of_block' hR2 1
          have g2 := free_of_block' hR2 2
          have HN := Lib.hid (skip_line hlt HK.out HG.out HRr.out HA.out HB.out HCl.out.1 HCl.out.2 q2 (but_set (but_set hb2 1 _) 2 _))
          have HM : Hid (s.size - (j + 1) < gk) := Lib.hid (by have := HK.out; omega)
          clear hR2 hb2 q1 q2
          go_wp2_with fail
          go_roundg (s.size - (j + 1))
          case rel => exact HN.out
          case measure => exact HM.out
        · have e32 : ((r[0].toNat : Int) == 32) = false := by simp; omega
          have e9 : ((r[0].toNat : Int) == 9) = false := by simp; omega
          have e13 : ((r[0].toNat : Int) == 13) = true := by simp; omega
          have HC := Lib.hid (fun w h => pass_any B r 1 a b w h (by omega) (by omega) (by omega) (by omega))
          have HCl : Hid (cls s.data.toList j = 4 ∧ ∀ c, s.data.toList[j]? = some c → c.toNat ≠ 10) := Lib.hid ⟨hcl.out.trans hc, fun c h => by rw [HB0.out] at h; cases h; omega⟩
          clear hc h1 hcl
          go_wp2_with fail
          refine (HC.out _ HR.out).mono ?_
          rintro e w2 ⟨rfl, hR2, hb2⟩
          have HN := Lib.hid (skip_blank hlt HK.out HG.out HRr.out HA.out HB.out HCl.out.1 HCl.out.2 hR2 hb2)
          have HM : Hid (s.size - (j + 1) < gk) := Lib.hid (by have := HK.out; omega)
          clear hR2 hb2
          go_wp2_with fail
          go_roundg (s.size - (j + 1))
          case rel => exact HN.out
          case measure => exact HM.out
      · have e32 : ((r[0].toNat : Int) == 32) = false := by simp; omega
        have e9 : ((r[0].toNat : Int) == 9) = false := by simp; omega
        have e13 : ((r[0].toNat : Int) == 13) = false := by simp; omega
        have e10 : ((r[0].toNat : Int) == 10) = false := by simp; omega
        have e35 : ((r[0].toNat : Int) == 35) = true := by simp; omega
        have hrl := run_le notNl r.data.toList
        rw [size_list'] at hrl
        have HRm := Lib.hid (fun w => remark_any r w (by omega))
        obtain ⟨m, hm⟩ : ∃ m, m = run notNl r.data.toList := ⟨_, rfl⟩
        rw [← hm] at HRm hrl
        have HMm := Lib.hid hm
        have HC := Lib.hid (fun w h => pass_any B r m a b w h (by omega) (by omega) (by omega) (by omega))
        have HCl : Hid (cls s.data.toList j = 5) := Lib.hid (hcl.out.trans hc)
        clear hc h1 hcl hm
        go_wp2_with (go_at_call 79; (with_reducible refine (HRm.out _).mono ?_); rintro e w' ⟨rfl, rfl⟩)
        refine (HC.out _ HR.out).mono ?_
        rintro e w2 ⟨rfl, hR2, hb2⟩
        have HN := Lib.hid (skip_remark hlt HK.out HG.out HRr.out HA.out HB.out HCl.out HMm.out hR2 hb2)
        clear hR2 hb2
        go_wp2_with fail
        go_roundg (s.size - (j + m))
        case rel => exact HN.out.1
        case measure => exact HN.out.2
      · have e32 : ((r[0].toNat : Int) == 32) = false := by simp; omega
        have e9 : ((r[0].toNat : Int) == 9) = false := by simp; omega
        have e13 : ((r[0].toNat : Int) == 13) = false := by simp; omega
        have e10 : ((r[0].toNat : Int) == 10) = false := by simp; omega
        have e35 : ((r[0].toNat : Int) == 35) = false := by simp; omega
        clear h1 n1 n2 n3 n4 n5 n6
        have HS2 := Lib.hid (skip_stop HK.out HG.out HSt.out HB.out (by rw [hcl.out, hc]; decide) (by rw [hcl.out, hc]; decide))
        clear hc hcl
        go_wp2_with fail
        refine bodyPost_ret (results_none rfl _ _ _) rfl ?_
        exact HS2.out
    · have hcl := cls_none (l := s.data.toList) (i := j) (by rw [size_list']; omega)
      have HS2 := Lib.hid (skip_stop HK.out HG.out HSt.out HB.out (by rw [hcl]; decide) (by rw [hcl]; decide))
      have hr0 : r.size = 0 := by omega
      have hl : r.toList = [] := by rw [ByteArray.toList_eq, ← List.length_eq_zero_iff]; exact hr0
      clear hcl hr hsz hr0
      go_wp2_with fail
      go_end0
      exact HS2.out
end Go.Proofs.YtobpcpfomdblgaaGreatDoor

namespace Go.Proofs.YtobpcpfomdblgaaGreatDoor
open Go.RowKit ScanSpec
set_option maxRecDepth 100000

theorem PairsIn.but {w w' : World} {B : Nat} (h : PairsIn w) (hb : w.grownBy w' (some B)) (hB : 0 ≠ B) : PairsIn w' := by
  have hp := h.pos
  obtain ⟨T, fr, h⟩ := h
  exact ⟨T, fr, (hb.block _ hp (by simpa using hB)).trans h⟩
abbrev tokZ : Obj := .cells #[.int .i64 0, .string ⟨#[]⟩, .int .i64 0, .int .i64 0] 43
abbrev tokH (p1 p2 : Int) : Obj := .cells #[.int .i64 0, .string ⟨#[]⟩, .int .i64 p1, .int .i64 p2] 43
def tokA (s : ByteArray) (kd : Int) (i n : Nat) : Value := .agg #[.int .i64 kd, .string (s.extract i (i + n)), .int .i64 (pos s.data.toList i).1, .int .i64 (pos s.data.toList i).2]
def NextGood (w : World) (B : Nat) (s : ByteArray) (i : Nat) (kd : Int) (n : Nat) (e : Ending) (w' : World) : Prop :=
  e = .returned (.tuple #[tokA s kd i n, .int .i64 0]) ∧ StandsAt w' B s (i + n) ∧ w.grownBy w' (some B)
/-- Behind the first call: where the reader stands, what the two tokens' blocks hold. -/
structure NextMid (w w3 : World) (B tb : Nat) (r : ByteArray) (p1 p2 : Int) : Prop where
  rdr : RdrAt w3 B r p1 p2
  tok : w3.heap[tb]? = some (.cells #[.int .i64 0, .string ⟨#[]⟩, .int .i64 p1, .int .i64 p2] 43 (0, 0))
  res : w3.heap[w.heap.size]? = some (.cells #[.int .i64 0, .string ⟨#[]⟩, .int .i64 0, .int .i64 0] 43 (0, 0))
  but : w.grownBy w3 (some B)
  lt : w.heap.size < tb
  bne : B ≠ tb
  top : tb < w3.heap.size
theorem next_mid {w w2 : World} {B : Nat} {s r : ByteArray} {g : Nat} {p1 p2 : Int} (hB : B < w.heap.size) (hR : StandsAt w2 B s g) (hr : s.extract g s.size = r) (hp : pos s.data.toList g = (p1, p2)) (hb : (w.alloc tokZ).grownBy w2 (some B)) :
    NextMid w (w2.alloc (tokH p1 p2)) B w2.heap.size r p1 p2 := by
  have h2 := hb.size
  rw [World.size_alloc] at h2
  unfold StandsAt at hR
  rw [hr, hp] at hR
  exact ⟨(heap_alloc_old _ _ hR.lt).trans hR, heap_alloc_new _ _, (heap_alloc_old _ _ (by omega)).trans ((hb.block w.heap.size (by simp) (by simp; omega)).trans (heap_alloc_new _ _)), but_from (but_alloc hb _), by omega, Nat.ne_of_lt hR.lt, by simp⟩

structure NextMid4 (w w4 : World) (B tb : Nat) (r : ByteArray) (p1 p2 : Int) (u v : Value) : Prop where
  rdr : RdrAt w4 B r p1 p2
  tok : w4.heap[tb]? = some (.cells #[u, v, .int .i64 p1, .int .i64 p2] 43 (0, 0))
  res : w4.heap[w.heap.size]? = some (.cells #[.int .i64 0, .string ⟨#[]⟩, .int .i64 0, .int .i64 0] 43 (0, 0))
  but : w.grownBy w4 (some B)
  lt : w.heap.size < tb
  bne : B ≠ tb
structure NextMid5 (w w4 : World) (B tb : Nat) (p1 p2 : Int) (u v : Value) : Prop where
  tok : w4.heap[tb]? = some (.cells #[u, v, .int .i64 p1, .int .i64 p2] 43 (0, 0))
  res : w4.heap[w.heap.size]? = some (.cells #[.int .i64 0, .string ⟨#[]⟩, .int .i64 0, .int .i64 0] 43 (0, 0))
  but : w.grownBy w4 (some B)
theorem next_past {w w4 w5 : World} {B tb : Nat} {r : ByteArray} {p1 p2 : Int} {u v : Value} (hB : B < w.heap.size) (h : NextMid4 w w4 B tb r p1 p2 u v) (hb : w4.grownBy w5 (some B)) : NextMid5 w w5 B tb p1 p2 u v :=
  ⟨(hb.block _ (Array.getElem?_eq_some_iff.1 h.tok).1 (by simpa using Ne.symm h.bne)).trans h.tok, (hb.block _ (Array.getElem?_eq_some_iff.1 h.res).1 (by simp; omega)).trans h.res, but_trans h.but hb⟩
theorem next_fin {w w5 : World} {B tb g n : Nat} {s r : ByteArray} {kd p1 p2 : Int} {u v x0 x1 x2 x3 : Value} (hB : B < w.heap.size) (h : NextMid5 w w5 B tb p1 p2 u v) (hS : StandsAt w5 B s (g + n)) (hr : s.extract g s.size = r) (hp : pos s.data.toList g = (p1, p2)) (hn : g + n ≤ s.size) :
    NextGood w B s g kd n (.returned (.tuple #[.agg #[.int .i64 kd, .string (r.extract 0 n), .int .i64 p1, .int .i64 p2], .int .i64 0]))
      ((((w5.setCell ⟨w.heap.size, 0, none⟩ x0).setCell ⟨w.heap.size, 1, none⟩ x1).setCell ⟨w.heap.size, 2, none⟩ x2).setCell ⟨w.heap.size, 3, none⟩ x3) := by
  have hb : ∀ (W : World) (j : Nat) (x : Value), (W.setCell ⟨w.heap.size, j, none⟩ x).heap[B]? = W.heap[B]? := fun W j x => Below.heap_setCell _ _ _ _ (Nat.ne_of_lt hB)
  refine ⟨?_, ?_, but_set_new (but_set_new (but_set_new (but_set_new h.but (Nat.le_refl _) _ _) (Nat.le_refl _) _ _) (Nat.le_refl _) _ _) (Nat.le_refl _) _ _⟩
  · subst hr
    rw [extract_head s g n hn, tokA, hp]
  · exact (hb _ _ _).trans ((hb _ _ _).trans ((hb _ _ _).trans ((hb _ _ _).trans hS)))

set_option maxHeartbeats 4000000 in
theorem next_good (B i : Nat) (s : ByteArray) (w : World) (hi : i ≤ s.size) (hs : s.size ≤ 9223372036854775800) (h : StandsAt w B s i) (kd : Int) (n : Nat)
    (hn : gap s.data.toList i + n ≤ s.size) (hl : ∀ k, k < n → ∃ c, s.data.toList[gap s.data.toList i + k]? = some c ∧ c.toNat ≠ 10)
    (hF : ∀ w', w.grownBy w' (some B) → Calls Tryz.prog 58 #[.string (s.extract (gap s.data.toList i) s.size)] w' fun e w2 => e = .returned (.tuple #[.int .i64 kd, .int .i64 n, .int .i64 0]) ∧ w' = w2) :
    Calls Tryz.prog 32 #[.pointer (some ⟨B, 0, none⟩)] w (NextGood w B s (gap s.data.toList i) kd n) := by
  have HS := Lib.hid (fun w h => skip_any B i s w hi hs h)
  have hBlt := h.lt
  have HSt := Lib.hid h
  obtain ⟨g, hg⟩ : ∃ g, g = gap s.data.toList i := ⟨_, rfl⟩
  rw [← hg] at hn hl hF ⊢
  obtain ⟨r, hr⟩ : ∃ r, s.extract g s.size = r := ⟨_, rfl⟩
  obtain ⟨p1, p2, hp⟩ : ∃ p1 p2, pos s.data.toList g = (p1, p2) := ⟨_, _, rfl⟩
  have hrs : r.size + g = s.size := by rw [← hr, extract_size']; omega
  have hpb := pos_bd s.data.toList g
  rw [hp] at hpb
  obtain ⟨b1, b2, b3, b4⟩ := hpb
  simp only at b1 b2 b3 b4
  rw [hr] at hF
  have HP := Lib.hid hp
  have HRr := Lib.hid hr
  have HGp := Lib.hid hg
  have HL := Lib.hid hl
  have HF := Lib.hid hF
  have hnr : n ≤ r.size := by omega
  have hnI : (n : Int) ≤ (r.size : Int) := by omega
  have HPs := Lib.hid (fun w h => pass_any B r n p1 p2 w h (by omega) (by omega) (by omega) (by omega))
  clear h hg hl hF hp hr
  go_enter Tryz.func32, Tryz.ntmps32
  go_wp2_with fail
  refine (HS.out _ (by exact (heap_alloc_old _ _ hBlt).trans HSt.out)).mono ?_
  rintro e w2 ⟨rfl, hR2, hb2⟩
  rw [← HGp.out] at hR2
  have HM := Lib.hid (next_mid hBlt hR2 HRr.out HP.out hb2)
  have c0 : w2.cell? ⟨B, 0, none⟩ = some (.string r) := by have := cell_of_block' hR2 (i := 0) rfl; rwa [HRr.out] at this
  have c1 : w2.cell? ⟨B, 1, none⟩ = some (.int .i64 p1) := by have := cell_of_block' hR2 (i := 1) rfl; rwa [HP.out] at this
  have c2 : w2.cell? ⟨B, 2, none⟩ = some (.int .i64 p2) := by have := cell_of_block' hR2 (i := 2) rfl; rwa [HP.out] at this
  have hB2 := hR2.lt
  clear hR2 hb2
  go_wp2_with fail
  refine (HF.out _ HM.out.but).mono ?_
  rintro e w' ⟨rfl, rfl⟩
  obtain ⟨tb, htb⟩ : ∃ tb, tb = w2.heap.size := ⟨_, rfl⟩
  generalize hW3 : w2.alloc (tokH p1 p2) = w3 at HM ⊢
  rw [← htb] at HM ⊢
  clear hW3 c0 c1 c2 htb hB2
  have c0 : w3.cell? ⟨B, 0, none⟩ = some (.string r) := cell_of_block' HM.out.rdr (i := 0) rfl
  have t0 := cell_of_block' HM.out.tok (i := 0) rfl
  have t1 := cell_of_block' HM.out.tok (i := 1) rfl
  have f0 := free_of_block' HM.out.tok 0
  have f1 := free_of_block' HM.out.tok 1
  have q0 : (w3.setCell ⟨tb, 0, none⟩ (.int .i64 kd)).heap[tb]? = some (.cells #[.int .i64 kd, .string ⟨#[]⟩, .int .i64 p1, .int .i64 p2] 43 (0, 0)) := block_setCell' HM.out.tok 0 _
  have d0 : (w3.setCell ⟨tb, 0, none⟩ (.int .i64 kd)).cell? ⟨B, 0, none⟩ = some (.string r) := cell_of_block' ((Below.heap_setCell _ _ _ _ HM.out.bne).trans HM.out.rdr) (i := 0) rfl
  have d1 := cell_of_block' q0 (i := 1) rfl
  have g1 := free_of_block' q0 1
  clear q0
  go_wp2_with fail
  go_region
  have hT4 : ((w3.setCell ⟨tb, 0, none⟩ (.int .i64 kd)).setCell ⟨tb, 1, none⟩ (.string (r.extract 0 n))).heap[tb]? = some (.cells #[.int .i64 kd, .string (r.extract 0 n), .int .i64 p1, .int .i64 p2] 43 (0, 0)) := block_setCell' (block_setCell' HM.out.tok 0 _) 1 _
  have HM4 : Hid (NextMid4 w ((w3.setCell ⟨tb, 0, none⟩ (.int .i64 kd)).setCell ⟨tb, 1, none⟩ (.string (r.extract 0 n))).drew B tb r p1 p2 (.int .i64 kd) (.string (r.extract 0 n))) :=
    Lib.hid ⟨(Below.heap_setCell _ _ _ _ HM.out.bne).trans ((Below.heap_setCell _ _ _ _ HM.out.bne).trans HM.out.rdr), hT4, (Below.heap_setCell _ _ _ _ (Nat.ne_of_lt HM.out.lt)).trans ((Below.heap_setCell _ _ _ _ (Nat.ne_of_lt HM.out.lt)).trans HM.out.res),
      but_drew (but_set_new (but_set_new HM.out.but (Nat.le_of_lt HM.out.lt) _ _) (Nat.le_of_lt HM.out.lt) _ _), HM.out.lt, HM.out.bne⟩
  clear hT4 d0 d1 g1 c0 t0 t1 f0 f1
  generalize ((w3.setCell ⟨tb, 0, none⟩ (.int .i64 kd)).setCell ⟨tb, 1, none⟩ (.string (r.extract 0 n))).drew = w4 at HM4 ⊢
  go_wp2_with fail
  refine (HPs.out _ HM4.out.rdr).mono ?_
  rintro e w5 ⟨rfl, hR5, hb5⟩
  have HM5 := Lib.hid (next_past hBlt HM4.out hb5)
  have HR5 := Lib.hid (stands_on hR5 HRr.out.symm (by rw [pos_along _ HL.out, HP.out]))
  clear hR5 hb5
  have c0 := cell_of_block' HM5.out.tok (i := 0) rfl
  have c1 := cell_of_block' HM5.out.tok (i := 1) rfl
  have c2 := cell_of_block' HM5.out.tok (i := 2) rfl
  have c3 := cell_of_block' HM5.out.tok (i := 3) rfl
  have r0 := cell_of_block' HM5.out.res (i := 0) rfl
  have r1 := cell_of_block' HM5.out.res (i := 1) rfl
  have r2 := cell_of_block' HM5.out.res (i := 2) rfl
  have r3 := cell_of_block' HM5.out.res (i := 3) rfl
  have f0 := free_of_block' HM5.out.res 0
  have f1 := free_of_block' HM5.out.res 1
  have f2 := free_of_block' HM5.out.res 2
  have f3 := free_of_block' HM5.out.res 3
  go_wp2_with fail
  have q0 := fun u => (store_four HM5.out.res u u u u).1
  have q1 := fun u v => (store_four HM5.out.res u v v v).2.1
  have q2 := fun u v x => (store_four HM5.out.res u v x x).2.2.1
  have q3 := fun u v x y => (store_four HM5.out.res u v x y).2.2.2
  refine bodyPost_ret (v := .tuple #[.agg #[.int .i64 kd, .string (r.extract 0 n), .int .i64 p1, .int .i64 p2], .int .i64 0]) (by simp [results, Tryz.results32, go_sem, q0, q1, q2, q3]) rfl ?_
  exact next_fin hBlt HM5.out HR5.out HRr.out HP.out hn

def NextBad (w : World) (B : Nat) (s : ByteArray) (i : Nat) (er : Int) (e : Ending) (w' : World) : Prop :=
  e = .returned (.tuple #[.agg #[.int .i64 0, .string ⟨#[]⟩, .int .i64 (pos s.data.toList i).1, .int .i64 (pos s.data.toList i).2], .int .i64 er]) ∧ w.grownBy w' (some B)
set_option maxHeartbeats 4000000 in
theorem next_bad (B i : Nat) (s : ByteArray) (w : World) (hi : i ≤ s.size) (hs : s.size ≤ 9223372036854775800) (h : StandsAt w B s i) (er : Int) (hne : er ≠ 0)
    (hF : ∀ w', w.grownBy w' (some B) → Calls Tryz.prog 58 #[.string (s.extract (gap s.data.toList i) s.size)] w' fun e w2 => e = .returned (.tuple #[.int .i64 0, .int .i64 0, .int .i64 er]) ∧ w' = w2) :
    Calls Tryz.prog 32 #[.pointer (some ⟨B, 0, none⟩)] w (NextBad w B s (gap s.data.toList i) er) := by
  have HS := Lib.hid (fun w h => skip_any B i s w hi hs h)
  have hBlt := h.lt
  have HSt := Lib.hid h
  obtain ⟨g, hg⟩ : ∃ g, g = gap s.data.toList i := ⟨_, rfl⟩
  rw [← hg] at hF ⊢
  obtain ⟨r, hr⟩ : ∃ r, s.extract g s.size = r := ⟨_, rfl⟩
  obtain ⟨p1, p2, hp⟩ : ∃ p1 p2, pos s.data.toList g = (p1, p2) := ⟨_, _, rfl⟩
  rw [hr] at hF
  have HP := Lib.hid hp
  have HRr := Lib.hid hr
  have HGp := Lib.hid hg
  have HF := Lib.hid hF
  have e0 : (er == 0) = false := by simpa using hne
  have e1 : (er != 0) = true := by simpa using hne
  clear h hg hF hp hr hne
  go_enter Tryz.func32, Tryz.ntmps32
  go_wp2_with fail
  refine (HS.out _ (by exact (heap_alloc_old _ _ hBlt).trans HSt.out)).mono ?_
  rintro e w2 ⟨rfl, hR2, hb2⟩
  rw [← HGp.out] at hR2
  have HM := Lib.hid (next_mid hBlt hR2 HRr.out HP.out hb2)
  have c0 : w2.cell? ⟨B, 0, none⟩ = some (.string r) := by have := cell_of_block' hR2 (i := 0) rfl; rwa [HRr.out] at this
  have c1 : w2.cell? ⟨B, 1, none⟩ = some (.int .i64 p1) := by have := cell_of_block' hR2 (i := 1) rfl; rwa [HP.out] at this
  have c2 : w2.cell? ⟨B, 2, none⟩ = some (.int .i64 p2) := by have := cell_of_block' hR2 (i := 2) rfl; rwa [HP.out] at this
  have hB2 := hR2.lt
  clear hR2 hb2
  go_wp2_with fail
  refine (HF.out _ HM.out.but).mono ?_
  rintro e w' ⟨rfl, rfl⟩
  obtain ⟨tb, htb⟩ : ∃ tb, tb = w2.heap.size := ⟨_, rfl⟩
  generalize hW3 : w2.alloc (tokH p1 p2) = w3 at HM ⊢
  rw [← htb] at HM ⊢
  clear hW3 c0 c1 c2 htb hB2
  have c0 := cell_of_block' HM.out.tok (i := 0) rfl
  have c1 := cell_of_block' HM.out.tok (i := 1) rfl
  have c2 := cell_of_block' HM.out.tok (i := 2) rfl
  have c3 := cell_of_block' HM.out.tok (i := 3) rfl
  have r0 := cell_of_block' HM.out.res (i := 0) rfl
  have r1 := cell_of_block' HM.out.res (i := 1) rfl
  have r2 := cell_of_block' HM.out.res (i := 2) rfl
  have r3 := cell_of_block' HM.out.res (i := 3) rfl
  have f0 := free_of_block' HM.out.res 0
  have f1 := free_of_block' HM.out.res 1
  have f2 := free_of_block' HM.out.res 2
  have f3 := free_of_block' HM.out.res 3
  go_wp2_with fail
  have q0 := fun u => (store_four HM.out.res u u u u).1
  have q1 := fun u v => (store_four HM.out.res u v v v).2.1
  have q2 := fun u v x => (store_four HM.out.res u v x x).2.2.1
  have q3 := fun u v x y => (store_four HM.out.res u v x y).2.2.2
  refine bodyPost_ret (v := .tuple #[.agg #[.int .i64 0, .string ⟨#[]⟩, .int .i64 p1, .int .i64 p2], .int .i64 er]) (by simp [results, Tryz.results32, go_sem, q0, q1, q2, q3]) rfl ?_
  exact ⟨by rw [HP.out], but_set_new (but_set_new (but_set_new (but_set_new HM.out.but (Nat.le_refl _) _ _) (Nat.le_refl _) _ _) (Nat.le_refl _) _ _) (Nat.le_refl _) _ _⟩
end Go.Proofs.YtobpcpfomdblgaaGreatDoor

namespace Go.Proofs.YtobpcpfomdblgaaGreatDoor
open Go.RowKit ScanSpec
set_option maxRecDepth 100000

theorem one_kind {d : List UInt8} {kd : Int} {ln : Nat} (h : ScanSpec.one d = (kd, ln, 0)) : kd ≠ 0 := by
  intro hk
  subst hk
  unfold ScanSpec.one at h
  split at h
  · split at h <;> simp at h
  · split at h
    · split at h
      · simp at h
      · split at h <;> simp at h
    · split at h <;> simp at h
theorem one_zero {d : List UInt8} {kd er : Int} {ln : Nat} (h : ScanSpec.one d = (kd, ln, er)) (hne : er ≠ 0) : kd = 0 ∧ ln = 0 := by
  unfold ScanSpec.one at h
  split at h
  · split at h
    · cases h; exact ⟨rfl, rfl⟩
    · cases h; exact absurd rfl hne
  · split at h
    · split at h
      · cases h; exact ⟨rfl, rfl⟩
      · split at h
        · cases h; exact ⟨rfl, rfl⟩
        · cases h; exact absurd rfl hne
    · split at h
      · cases h; exact ⟨rfl, rfl⟩
      · cases h; exact absurd rfl hne

set_option maxHeartbeats 2000000 in
theorem stoks_long (s : ByteArray) (w : World) (h : 65536 < s.size) : Calls Tryz.prog 11 #[.string s] w (TokPost w s) := by
  have HT : Hid (scanT s.data.toList = ([], 0, 5)) := Lib.hid (if_pos h)
  have hI : 65536 < (s.size : Int) := by omega
  go_enter Tryz.func11, Tryz.ntmps11
  go_wp2_with fail
  go_region
  all_goals
    go_wp2_with fail
    refine bodyPost_ret (v := .tuple #[.slice none 0 0, .agg #[.int .i64 1, .int .i64 1], .int .i64 5]) (by simp [results, Tryz.results11, go_sem]) rfl ?_
    exact ⟨(((Below.refl _ _).alloc (Nat.le_refl _) _).alloc (by simp) _).drew, fun _ => by rw [HT.out]; rfl, fun h => by rw [HT.out] at h; exact absurd h (by decide)⟩

/-- At the head of the loop. -/
structure TokLoop (W : World) (s : ByteArray) (k : Nat) (v : Value) (n j : Nat) (acc : List Tok) (wr : World) : Prop where
  hk : k = s.size - j
  hj : j ≤ s.size
  hn : acc.length = n
  own : wr.ownsRow (W.heap.size + 3) 43 4 v n (toksV s acc)
  go : ∃ f, scanGo s.data.toList f (gap s.data.toList j) acc = scan s.data.toList ∧ s.size ≤ gap s.data.toList j + f
  few : n ≤ 4000
  res : wr.heap[W.heap.size]? = some (.cells #[.int .i64 0, .int .i64 0] 35 (0, 0))
  rdr : StandsAt wr (W.heap.size + 2) s j
  below : Below W.heap.size W wr
  top : W.heap.size + 3 ≤ wr.heap.size
def TokLoopR (W : World) (s : ByteArray) (k : Nat) (v : Value) (wr : World) : Prop := ∃ n j acc, TokLoop W s k v n j acc wr
theorem toks_start {w : World} {s : ByteArray} : TokLoopR w s s.size (.slice none 0 0)
    (((w.alloc (.cells #[.int .i64 0, .int .i64 0] 35)).alloc (.cells #[.int .i64 1, .int .i64 1] 35)).alloc (.cells #[.string s, .int .i64 1, .int .i64 1] 66)) := by
  have e1 := World.size_alloc w (.cells #[.int .i64 0, .int .i64 0] 35)
  have e2 := World.size_alloc (w.alloc (.cells #[.int .i64 0, .int .i64 0] 35)) (.cells #[.int .i64 1, .int .i64 1] 35)
  have hg := (gap_bd (l := s.data.toList) (i := 0) (Nat.zero_le _)).1
  refine ⟨0, 0, [], by omega, Nat.zero_le _, rfl, ⟨rfl, .inl ⟨rfl, rfl⟩⟩, ⟨s.size, rfl, by omega⟩, by omega, ?_, ?_, ?_, by simp⟩
  · exact (heap_alloc_old _ _ (by simp; omega)).trans ((heap_alloc_old _ _ (by simp)).trans (heap_alloc_new _ _))
  · unfold StandsAt RdrAt
    have := heap_alloc_new ((w.alloc (.cells #[.int .i64 0, .int .i64 0] 35)).alloc (.cells #[.int .i64 1, .int .i64 1] 35)) (.cells #[.string s, .int .i64 1, .int .i64 1] 66)
    rw [e2, e1] at this
    rw [extract_all]
    exact this
  · exact (((Below.refl _ _).alloc (Nat.le_refl _) _).alloc (by simp) _).alloc (by simp; omega) _

/-- Behind the append. -/
structure TokMid (W : World) (s : ByteArray) (tb x : Nat) (kd p1 p2 : Int) (tx : ByteArray) (w4 : World) : Prop where
  tok : w4.heap[tb]? = some (.cells #[.int .i64 kd, .string tx, .int .i64 p1, .int .i64 p2] 43 (0, 0))
  res : w4.heap[W.heap.size]? = some (.cells #[.int .i64 0, .int .i64 0] 35 (0, 0))
  rdr : StandsAt w4 (W.heap.size + 2) s x
  below : Below W.heap.size W w4
  top : W.heap.size + 3 ≤ w4.heap.size
abbrev tokO (kd : Int) (tx : ByteArray) (p1 p2 : Int) : Obj := .cells #[.int .i64 kd, .string tx, .int .i64 p1, .int .i64 p2] 43
theorem toks_mid {W wr w2 w4 : World} {s tx : ByteArray} {k n j x : Nat} {v : Value} {acc : List Tok} {kd p1 p2 : Int} (hL : TokLoop W s k v n j acc wr) (hb : wr.grownBy w2 (some (W.heap.size + 2))) (hR : StandsAt w2 (W.heap.size + 2) s x)
    (hg : ((w2.alloc (tokO kd tx p1 p2)).alloc (tokO kd tx p1 p2)).grownBy w4 v.ownBlock) : TokMid W s w2.heap.size x kd p1 p2 tx w4 := by
  have hv := own_block_bd (own_but hL.own hb (by omega))
  have ht := hL.top
  have h2 := hb.size
  have h4 := hg.size
  simp only [World.size_alloc] at h4
  have old : ∀ i, i < w2.heap.size → (i < W.heap.size + 3) → w4.heap[i]? = w2.heap[i]? := fun i hi hj =>
    (hg.block i (by simp; omega) (fun e => by have := (hv i e.symm).1; omega)).trans ((heap_alloc_old _ _ (by simp; omega)).trans (heap_alloc_old _ _ hi))
  refine ⟨?_, ?_, ?_, ?_, by omega⟩
  · exact (hg.block w2.heap.size (by simp; omega) (fun e => by have := (hv _ e.symm).2; omega)).trans ((heap_alloc_old _ _ (by simp)).trans (heap_alloc_new _ _))
  · exact (old _ (by omega) (by omega)).trans ((hb.block _ (by omega) (by simp)).trans hL.res)
  · exact (old _ (by omega) (by omega)).trans hR
  · refine hL.below.trans ⟨?_, ?_, ?_, by omega, fun i hi => (old i (by omega) (by omega)).trans (hb.block i (by omega) (by simp; omega))⟩
    · exact hg.os.trans hb.os
    · exact hg.tape.trans hb.tape
    · exact hg.output.trans hb.output
theorem toks_done {W w4 : World} {s : ByteArray} {tb x g n cap k j : Nat} {acc : List Tok} {v u0 u1 : Value} {wr : World} {p1 p2 : Int} {tx : ByteArray} (hm : s.size ≤ 65536) (hL : TokLoop W s k v n j acc wr) (hG : g = gap s.data.toList j) (hP : pos s.data.toList g = (p1, p2)) (hge : g = s.size) (hM : TokMid W s tb x 0 p1 p2 tx w4) {gg : Nat}
    (hown : w4.ownsRow (W.heap.size + 3) 43 4 (.slice (some ⟨gg, 0, none⟩) (n + 1) cap) (n + 1) (toksV s acc ++ [.int .i64 0, .string ⟨#[]⟩, .int .i64 p1, .int .i64 p2])) :
    TokPost W s (.returned (.tuple #[.slice (some ⟨gg, 0, none⟩) (n + 1) cap, .agg #[.int .i64 0, .int .i64 0], .int .i64 0])) ((w4.setCell ⟨W.heap.size, 0, none⟩ u0).setCell ⟨W.heap.size, 1, none⟩ u1) := by
  obtain ⟨f, hgo, hf⟩ := hL.go
  rw [← hG] at hgo
  refine tok_end (i := g) (f := f) ((show scanT s.data.toList = scan s.data.toList from if_neg (by rw [size_list']; omega))) hL.hn hgo (by omega) ?_ hM.below
  have e : endC s g = [.int .i64 0, .string ⟨#[]⟩, .int .i64 p1, .int .i64 p2] := by
    unfold endC
    rw [hP]; rfl
  rw [e]
  exact own_weak hown (by omega)
theorem toks_next {W w4 wr : World} {s : ByteArray} {tb g n ln cap gg k j : Nat} {acc : List Tok} {v : Value} {kd p1 p2 : Int} (hL : TokLoop W s k v n j acc wr) (hG : g = gap s.data.toList j) (hP : pos s.data.toList g = (p1, p2)) (hlt : g < s.size) (hO : ScanSpec.one (s.data.toList.drop g) = (kd, ln, 0)) (hfull : ¬ n = 4000)
    (hln : 1 ≤ ln) (hle : g + ln ≤ s.size) (hM : TokMid W s tb (g + ln) kd p1 p2 (s.extract g (g + ln)) w4)
    (hown : w4.ownsRow (W.heap.size + 3) 43 4 (.slice (some ⟨gg, 0, none⟩) (n + 1) cap) (n + 1) (toksV s acc ++ [.int .i64 kd, .string (s.extract g (g + ln)), .int .i64 p1, .int .i64 p2])) :
    TokLoopR W s (s.size - (g + ln)) (.slice (some ⟨gg, 0, none⟩) (n + 1) cap) w4 ∧ s.size - (g + ln) < k := by
  obtain ⟨f, hgo, hf⟩ := hL.go
  rw [← hG] at hgo hf
  obtain ⟨f, rfl⟩ : ∃ f', f = f' + 1 := ⟨f - 1, by omega⟩
  have hk := hL.hk
  have hn := hL.hn
  have hfew := hL.few
  have hjg := (gap_bd (l := s.data.toList) (i := j) hL.hj).1
  rw [← hG] at hjg
  have hgb := (gap_bd (l := s.data.toList) (i := g + ln) hle).1
  refine ⟨⟨n + 1, g + ln, acc ++ [⟨kd, g, ln⟩], rfl, hle, by simp [hn], ?_, ⟨f, ?_, by omega⟩, by omega, hM.res, hM.rdr, hM.below, hM.top⟩, by omega⟩
  · rw [← toksV_snoc]
    have e : tokV s ⟨kd, g, ln⟩ = [.int .i64 kd, .string (s.extract g (g + ln)), .int .i64 p1, .int .i64 p2] := by
      unfold tokV
      rw [hP]
    rw [e]
    exact hown
  · rw [← hgo, scanGo_next (by rw [size_list']; exact hlt) (by rw [hO]) (by rw [hn]; exact hfull), hO]
theorem toks_fault {W wr : World} {s : ByteArray} {g n ln k j : Nat} {acc : List Tok} {v : Value} {kd er : Int} (hm : s.size ≤ 65536) (hL : TokLoop W s k v n j acc wr) (hG : g = gap s.data.toList j) (hlt : g < s.size) (hO : ScanSpec.one (s.data.toList.drop g) = (kd, ln, er)) (hne : er ≠ 0) : scanT s.data.toList = ([], g, er) := by
  obtain ⟨f, hgo, hf⟩ := hL.go
  rw [← hG] at hgo hf
  obtain ⟨f, rfl⟩ : ∃ f', f = f' + 1 := ⟨f - 1, by omega⟩
  rw [show scanT s.data.toList = scan s.data.toList from if_neg (by rw [size_list']; omega), ← hgo, scanGo_err (by rw [size_list']; exact hlt) (by rw [hO]; exact hne), hO]
theorem toks_full {W wr : World} {s : ByteArray} {g n ln k j : Nat} {acc : List Tok} {v : Value} {kd : Int} (hm : s.size ≤ 65536) (hL : TokLoop W s k v n j acc wr) (hG : g = gap s.data.toList j) (hlt : g < s.size) (hO : ScanSpec.one (s.data.toList.drop g) = (kd, ln, 0)) (hfull : n = 4000) : scanT s.data.toList = ([], g, 8) := by
  obtain ⟨f, hgo, hf⟩ := hL.go
  rw [← hG] at hgo hf
  obtain ⟨f, rfl⟩ : ∃ f', f = f' + 1 := ⟨f - 1, by omega⟩
  rw [show scanT s.data.toList = scan s.data.toList from if_neg (by rw [size_list']; omega), ← hgo, scanGo_full (by rw [size_list']; exact hlt) (by rw [hO]) (by rw [hL.hn]; exact hfull)]
/-- What the fault's return leaves. -/
theorem toks_ret {W wr w2 : World} {s : ByteArray} {k n j g : Nat} {v u0 u1 : Value} {acc : List Tok} {o : Obj} {p1 p2 er : Int} (hL : TokLoop W s k v n j acc wr) (hb : wr.grownBy w2 (some (W.heap.size + 2))) (hP : pos s.data.toList g = (p1, p2)) (hT : scanT s.data.toList = ([], g, er)) (hne : er ≠ 0) :
    TokPost W s (.returned (.tuple #[.slice none 0 0, .agg #[.int .i64 p1, .int .i64 p2], .int .i64 er])) (((w2.alloc o).setCell ⟨W.heap.size, 0, none⟩ u0).setCell ⟨W.heap.size, 1, none⟩ u1).drew := by
  have ht := hL.top
  have h2 := hb.size
  have hB : Below W.heap.size W w2 := hL.below.trans ⟨hb.os, hb.tape, hb.output, h2, fun i hi => hb.block i (by omega) (by simp; omega)⟩
  have := tok_bad (s := s) (i := g) (er := er) ((((hB.alloc (by omega) o).setCell (p := ⟨W.heap.size, 0, none⟩) (Nat.le_refl _) u0).setCell (p := ⟨W.heap.size, 1, none⟩) (Nat.le_refl _) u1).drew) hT hne
  rwa [hP] at this
theorem toks_res {W wr w2 : World} {s : ByteArray} {k n j : Nat} {v : Value} {acc : List Tok} (o : Obj) (hL : TokLoop W s k v n j acc wr) (hb : wr.grownBy w2 (some (W.heap.size + 2))) :
    (w2.alloc o).heap[W.heap.size]? = some (.cells #[.int .i64 0, .int .i64 0] 35 (0, 0)) := by
  have ht := hL.top
  have h2 := hb.size
  exact (heap_alloc_old _ _ (by omega)).trans ((hb.block _ (by omega) (by simp)).trans hL.res)
theorem toks_good {s tx : ByteArray} {j g B ln : Nat} {kd p1 p2 : Int} {wr : World} (hpw : PairsIn wr) (hB : 0 ≠ B) (hg : g = gap s.data.toList j) (hp : pos s.data.toList g = (p1, p2)) (he : g < s.size) (hO : ScanSpec.one (s.data.toList.drop g) = (kd, ln, 0)) (hle : g + ln ≤ s.size) (htx : tx = s.extract g (g + ln)) (hj : j ≤ s.size) (hs : s.size ≤ 9223372036854775800) (h : StandsAt wr B s j) :
    Calls Tryz.prog 32 #[.pointer (some ⟨B, 0, none⟩)] wr fun e w' => e = .returned (.tuple #[.agg #[.int .i64 kd, .string tx, .int .i64 p1, .int .i64 p2], .int .i64 0]) ∧ StandsAt w' B s (g + ln) ∧ wr.grownBy w' (some B) := by
  subst htx
  have hsz := extract_size' s g
  refine (next_good B j s wr hj hs h kd ln (by omega) (fun k hk => by rw [← hg]; exact one_noline hO k hk) (fun w' hb => ?_)).mono ?_
  · rw [← hg]
    refine (first_any (s.extract g s.size) w' (hpw.but hb hB) (by omega) (by omega)).mono ?_
    rintro e w2 ⟨kd', er', ln', hO', he', hw'⟩
    rw [extract_drop, hO] at hO'
    cases hO'
    exact ⟨he', hw'⟩
  · rintro e w' ⟨h1, h2, h3⟩
    rw [← hg] at h1 h2
    refine ⟨?_, h2, h3⟩
    rw [h1, tokA, hp]
theorem toks_wrong {s : ByteArray} {j g B ln : Nat} {kd p1 p2 er : Int} {wr : World} (hpw : PairsIn wr) (hB : 0 ≠ B) (hg : g = gap s.data.toList j) (hp : pos s.data.toList g = (p1, p2)) (he : g < s.size) (hO : ScanSpec.one (s.data.toList.drop g) = (kd, ln, er)) (hne : er ≠ 0) (hj : j ≤ s.size) (hs : s.size ≤ 9223372036854775800) (h : StandsAt wr B s j) :
    Calls Tryz.prog 32 #[.pointer (some ⟨B, 0, none⟩)] wr fun e w' => e = .returned (.tuple #[.agg #[.int .i64 0, .string ⟨#[]⟩, .int .i64 p1, .int .i64 p2], .int .i64 er]) ∧ wr.grownBy w' (some B) := by
  have hsz := extract_size' s g
  obtain ⟨rfl, rfl⟩ := one_zero hO hne
  refine (next_bad B j s wr hj hs h er hne (fun w' hb => ?_)).mono ?_
  · rw [← hg]
    refine (first_any (s.extract g s.size) w' (hpw.but hb hB) (by omega) (by omega)).mono ?_
    rintro e w2 ⟨kd', er', ln', hO', he', hw'⟩
    rw [extract_drop, hO] at hO'
    cases hO'
    exact ⟨he', hw'⟩
  · rintro e w' ⟨h1, h3⟩
    rw [← hg] at h1
    refine ⟨?_, h3⟩
    rw [h1, hp]
theorem toks_end {s : ByteArray} {j g B : Nat} {p1 p2 : Int} {wr : World} (hg : g = gap s.data.toList j) (hp : pos s.data.toList g = (p1, p2)) (he : g = s.size) (hj : j ≤ s.size) (hs : s.size ≤ 9223372036854775800) (h : StandsAt wr B s j) :
    Calls Tryz.prog 32 #[.pointer (some ⟨B, 0, none⟩)] wr fun e w' => e = .returned (.tuple #[.agg #[.int .i64 0, .string ⟨#[]⟩, .int .i64 p1, .int .i64 p2], .int .i64 0]) ∧ StandsAt w' B s g ∧ wr.grownBy w' (some B) := by
  have hx : s.extract g s.size = ⟨#[]⟩ := by
    apply ByteArray.ext
    apply Array.toList_inj.mp
    rw [extract_drop, List.drop_eq_nil_of_le (by rw [size_list']; omega)]
  refine (next_good B j s wr hj hs h 0 0 (by omega) (fun k hk => absurd hk (by omega)) (fun w' _ => ?_)).mono ?_
  · rw [← hg, hx]
    exact first_end w'
  · rintro e w' ⟨h1, h2, h3⟩
    rw [← hg] at h1 h2
    refine ⟨?_, h2, h3⟩
    rw [h1, tokA, hp, show s.extract g (g + 0) = ⟨#[]⟩ by
      apply ByteArray.ext
      simp]

set_option maxHeartbeats 4000000 in
theorem stoks_short (s : ByteArray) (w : World) (hp : PairsIn w) (h : s.size ≤ 65536) : Calls Tryz.prog 11 #[.string s] w (TokPost w s) := by
  have hI : (s.size : Int) ≤ 65536 := by omega
  have HP := Lib.hid hp
  clear hp
  obtain ⟨i0, hi, hz0, hz1, hz2⟩ := info_parts info_tok
  go_enter Tryz.func11, Tryz.ntmps11
  go_wp2_with fail
  go_loopg [6] s.size (fun k v wr => TokLoopR w s k v wr)
  case atStart => exact toks_start
  case round =>
    obtain ⟨n, j, acc, hL⟩ := hrel
    obtain ⟨A, c, rfl⟩ := own_shape hL.own
    have hj := hL.hj
    have hg := gap_bd (l := s.data.toList) (i := j) hj
    rw [size_list'] at hg
    obtain ⟨g, hgE⟩ : ∃ g, g = gap s.data.toList j := ⟨_, rfl⟩
    obtain ⟨p1, p2, hpE⟩ : ∃ p1 p2, pos s.data.toList g = (p1, p2) := ⟨_, _, rfl⟩
    have HG := Lib.hid hgE
    have HPos := Lib.hid hpE
    have HL := Lib.hid hL
    have HPw : Hid (PairsIn wr) := Lib.hid (HP.out.keep hL.below)
    rw [← hgE] at hg
    obtain ⟨hg1, hg2⟩ := hg
    clear hL hgE hpE
    by_cases hge : g = s.size
    · have HN : Hid (Calls Tryz.prog 32 #[.pointer (some ⟨w.heap.size + 2, 0, none⟩)] wr fun e w' => e = .returned (.tuple #[.agg #[.int .i64 0, .string ⟨#[]⟩, .int .i64 p1, .int .i64 p2], .int .i64 0]) ∧ StandsAt w' (w.heap.size + 2) s g ∧ wr.grownBy w' (some (w.heap.size + 2))) := Lib.hid (toks_end HG.out HPos.out hge hj (by omega) HL.out.rdr)
      have HGe := Lib.hid hge
      clear hge
      go_wp2_with fail
      refine (HN.out).mono ?_
      rintro e w2 ⟨rfl, hR2, hb2⟩
      have hown2 := own_but HL.out.own hb2 (by omega)
      have hsz2 := hb2.size
      have htop := HL.out.top
      have hfew := HL.out.few
      have HR2 := Lib.hid hR2
      have HB2 := Lib.hid hb2
      have hown3 := (hown2.alloc (.cells #[.int .i64 0, .string ⟨#[]⟩, .int .i64 p1, .int .i64 p2] 43)).alloc (.cells #[.int .i64 0, .string ⟨#[]⟩, .int .i64 p1, .int .i64 p2] 43)
      have hnew := heap_alloc_new (w2.alloc (.cells #[.int .i64 0, .string ⟨#[]⟩, .int .i64 p1, .int .i64 p2] 43)) (.cells #[.int .i64 0, .string ⟨#[]⟩, .int .i64 p1, .int .i64 p2] 43)
      rw [World.size_alloc] at hnew
      have HOwn := Lib.hid hown3
      have HNew := Lib.hid hnew
      clear hR2 hb2 hown2 hown3 hnew
      go_wp2_with (at_builtin; refine wpList_append_lies _ rfl (.tmp 39) (.tmp 41) _ rfl (w.heap.size + 3) 43 i0 _ 4 40 Tryz.underlying33 hi hz0 hz1 hz2 rfl (by decide) _ n (toksV s acc) rfl HOwn.out ⟨w2.heap.size + 1, 0, none⟩ 1 1 [.int .i64 0, .string ⟨#[]⟩, .int .i64 p1, .int .i64 p2] rfl rfl (World.news_of_block (cs := #[.int .i64 0, .string ⟨#[]⟩, .int .i64 p1, .int .i64 p2]) (t := 43) (fr := (0, 0)) HNew.out) (by simp [Value.oneCell']) (by decide) ?_ ?_ ?_ (w2.heap.size + 2) ?_ ?_; (unfold maxLen; omega); omega; (simp; omega); (simp); intro gg cap4 w4 hown4 hgrow4 hat4 hlt4; have HM := Lib.hid (toks_mid HL.out HB2.out HR2.out hgrow4); have k0 := cell_of_block' HM.out.tok (i := 0) rfl; have r0 := cell_of_block' HM.out.res (i := 0) rfl; have r1 := cell_of_block' HM.out.res (i := 1) rfl; have f0 := free_of_block' HM.out.res 0; have f1 := free_of_block' HM.out.res 1; have HOwn4 := Lib.hid hown4; have htop4 := HM.out.top; clear hgrow4 hown4)
      have q0 := fun u => (store_pair HM.out.res u u).1
      have q1 := fun u v => (store_pair HM.out.res u v).2
      refine bodyPost_ret (v := .tuple #[.slice (some ⟨gg, 0, none⟩) (n + 1) cap4, .agg #[.int .i64 0, .int .i64 0], .int .i64 0]) (by simp [results, Tryz.results11, go_sem, q0, q1]) rfl ?_
      exact toks_done h HL.out HG.out HPos.out HGe.out HM.out HOwn4.out
    · have hlt : g < s.size := by omega
      obtain ⟨kd, ln, er, hO⟩ : ∃ kd ln er, ScanSpec.one (s.data.toList.drop g) = (kd, ln, er) := ⟨_, _, _, rfl⟩
      have htop := HL.out.top
      have hfew := HL.out.few
      have HO := Lib.hid hO
      by_cases her : er = 0
      · subst her
        have hb1 := (one_bd (s.data.toList.drop g) (by rw [List.length_drop, size_list']; omega)).1
        rw [hO] at hb1
        obtain ⟨hln, hle⟩ := hb1 rfl
        rw [List.length_drop, size_list'] at hle
        have hle' : g + ln ≤ s.size := by simp only at hle; omega
        have hln' : 1 ≤ ln := hln
        have hkd := one_kind hO
        have hkd0 : (kd == 0) = false := by simpa using hkd
        have hkd1 : (kd != 0) = true := by simpa using hkd
        obtain ⟨tx, htx⟩ : ∃ tx, tx = s.extract g (g + ln) := ⟨_, rfl⟩
        have HN := Lib.hid (toks_good HPw.out (by omega) HG.out HPos.out hlt hO hle' htx hj (by omega) HL.out.rdr)
        have HTx := Lib.hid htx
        clear hO hb1 hln hle hkd hge htx
        by_cases hfull : n = 4000
        · have e4 : ((n : Int) == 4000) = true := by simp; omega
          have HT := Lib.hid (toks_full h HL.out HG.out hlt HO.out hfull)
          clear hfull
          go_wp2_with fail
          refine (HN.out).mono ?_
          rintro e w2 ⟨rfl, hR2, hb2⟩
          have hres := toks_res (tokO kd tx p1 p2) HL.out hb2
          have hsz2 := hb2.size
          have r0 := cell_of_block' hres (i := 0) rfl
          have r1 := cell_of_block' hres (i := 1) rfl
          have f0 := free_of_block' hres 0
          have f1 := free_of_block' hres 1
          have HRes := Lib.hid hres
          have HB2 := Lib.hid hb2
          clear hR2 hres hb2
          go_wp2_with fail
          go_region
          all_goals
            go_wp2_with fail
            have q0 := fun u => (store_pair HRes.out u u).1
            have q1 := fun u v => (store_pair HRes.out u v).2
            refine bodyPost_ret (v := .tuple #[.slice none 0 0, .agg #[.int .i64 p1, .int .i64 p2], .int .i64 8]) (by simp [results, Tryz.results11, go_sem, q0, q1]) rfl ?_
            exact toks_ret HL.out HB2.out HPos.out HT.out (by decide)
        · have e4 : ((n : Int) == 4000) = false := by simp; omega
          have HFu := Lib.hid hfull
          clear hfull
          go_wp2_with fail
          refine (HN.out).mono ?_
          rintro e w2 ⟨rfl, hR2, hb2⟩
          have hown2 := own_but HL.out.own hb2 (by omega)
          have hsz2 := hb2.size
          have HR2 := Lib.hid hR2
          have HB2 := Lib.hid hb2
          have hown3 := (hown2.alloc (tokO kd tx p1 p2)).alloc (tokO kd tx p1 p2)
          have hnew := heap_alloc_new (w2.alloc (tokO kd tx p1 p2)) (tokO kd tx p1 p2)
          rw [World.size_alloc] at hnew
          have HOwn := Lib.hid hown3
          have HNew := Lib.hid hnew
          clear hR2 hb2 hown2 hown3 hnew
          go_wp2_with (at_builtin; refine wpList_append_lies _ rfl (.tmp 39) (.tmp 41) _ rfl (w.heap.size + 3) 43 i0 _ 4 40 Tryz.underlying33 hi hz0 hz1 hz2 rfl (by decide) _ n (toksV s acc) rfl HOwn.out ⟨w2.heap.size + 1, 0, none⟩ 1 1 [.int .i64 kd, .string tx, .int .i64 p1, .int .i64 p2] rfl rfl (World.news_of_block (cs := #[.int .i64 kd, .string tx, .int .i64 p1, .int .i64 p2]) (t := 43) (fr := (0, 0)) HNew.out) (by simp [Value.oneCell']) (by decide) ?_ ?_ ?_ (w2.heap.size + 2) ?_ ?_; (unfold maxLen; omega); omega; (simp; omega); (simp); intro gg cap4 w4 hown4 hgrow4 hat4 hlt4; have HM := Lib.hid (toks_mid HL.out HB2.out HR2.out hgrow4); have k0 := cell_of_block' HM.out.tok (i := 0) rfl; have r0 := cell_of_block' HM.out.res (i := 0) rfl; have r1 := cell_of_block' HM.out.res (i := 1) rfl; have f0 := free_of_block' HM.out.res 0; have f1 := free_of_block' HM.out.res 1; have HOwn4 := Lib.hid hown4; have htop4 := HM.out.top; clear hgrow4 hown4)
          have HEnd := Lib.hid (toks_next HL.out HG.out HPos.out hlt HO.out HFu.out hln' hle' (by have := HM.out; rwa [HTx.out] at this) (by have := HOwn4.out; rwa [HTx.out] at this))
          go_roundg (s.size - (g + ln))
          case rel => exact HEnd.out.1
          case measure => exact HEnd.out.2
      · have HN := Lib.hid (toks_wrong HPw.out (by omega) HG.out HPos.out hlt hO her hj (by omega) HL.out.rdr)
        have HT := Lib.hid (toks_fault h HL.out HG.out hlt HO.out her)
        have e0 : (er == 0) = false := by simpa using her
        have e1 : (er != 0) = true := by simpa using her
        clear hO hge
        have HEr := Lib.hid her
        clear her
        go_wp2_with fail
        refine (HN.out).mono ?_
        rintro e w2 ⟨rfl, hb2⟩
        have hres := toks_res (tokO 0 ⟨#[]⟩ p1 p2) HL.out hb2
        have hsz2 := hb2.size
        have r0 := cell_of_block' hres (i := 0) rfl
        have r1 := cell_of_block' hres (i := 1) rfl
        have f0 := free_of_block' hres 0
        have f1 := free_of_block' hres 1
        have HRes := Lib.hid hres
        have HB2 := Lib.hid hb2
        clear hres hb2
        go_wp2_with fail
        go_region
        all_goals
          go_wp2_with fail
          have q0 := fun u => (store_pair HRes.out u u).1
          have q1 := fun u v => (store_pair HRes.out u v).2
          refine bodyPost_ret (v := .tuple #[.slice none 0 0, .agg #[.int .i64 p1, .int .i64 p2], .int .i64 er]) (by simp [results, Tryz.results11, go_sem, q0, q1]) rfl ?_
          exact toks_ret HL.out HB2.out HPos.out HT.out HEr.out

theorem stoks_any (s : ByteArray) (w : World) (hp : PairsIn w) : Calls Tryz.prog 11 #[.string s] w (TokPost w s) := by
  by_cases h : 65536 < s.size
  · exact stoks_long s w h
  · exact stoks_short s w hp (by omega)
end Go.Proofs.YtobpcpfomdblgaaGreatDoor

namespace Go.Proofs.YtobpcpfomdblgaaGreatDoor
open Go.RowKit CurSpec TermSpec ExprSpec NamesSpec ScanSpec

def tokOf (s : ByteArray) (t : Tok) : Tk := ⟨t.kind, s.extract t.at_ (t.at_ + t.len), (pos s.data.toList t.at_).1, (pos s.data.toList t.at_).2⟩
theorem toks_map (s : ByteArray) (l : List Tok) : toksV s l = tksV (l.map (tokOf s)) := by
  unfold toksV tksV
  rw [List.flatMap_map]
  rfl
def tkAll (s : ByteArray) : List Tk := (scanT s.data.toList).1.map (tokOf s)
def cur0 (L : List Tk) : Cur := ⟨L, 0, 0, 0, 0, 0⟩
theorem scanGo_len (l : List UInt8) : ∀ (f i : Nat) (acc : List Tok), acc.length ≤ 4000 → (scanGo l f i acc).1.length ≤ 4001
  | 0, i, acc, h => by simp [scanGo]; omega
  | f + 1, i, acc, h => by
    unfold scanGo
    split
    · simp; omega
    · dsimp only
      split
      · simp
      split
      · simp
      · exact scanGo_len l f _ _ (by simp; omega)
theorem scanT_len (l : List UInt8) : (scanT l).1.length ≤ 4001 := by
  unfold scanT
  split
  · simp
  · exact scanGo_len l _ _ _ (by simp)
theorem tkAll_ok (s : ByteArray) (h : s.size ≤ 9223372036854775807) : Ok (cur0 (tkAll s)) := by
  intro t ht
  obtain ⟨x, _, rfl⟩ := List.mem_map.1 ht
  show (s.extract _ _).size ≤ _
  rw [ByteArray.size_extract]
  omega
theorem Tms.but {w w' : World} {A : Option Addr} {n cp B : Nat} {l : List Tm} (h : Tms w (.slice A n cp) l) (hb : w.grownBy w' (some B)) (hne : (Value.slice A n cp).ownBlock ≠ some B) : Tms w' (.slice A n cp) l := by
  obtain ⟨m, hm, A', c', heq, hc, hl, hA⟩ := h
  cases heq
  refine ⟨n, hm, A, cp, rfl, hc, hl, fun h0 => ?_⟩
  obtain ⟨b, off, rfl, hlt, hcell⟩ := hA h0
  refine ⟨b, off, rfl, Nat.lt_of_lt_of_le hlt hb.size, fun j u hj => ?_⟩
  rw [← hcell j u hj]
  have := hb.block b hlt (fun e => hne (by rw [← e]; rfl))
  simp [World.cell?, this]

end Go.Proofs.YtobpcpfomdblgaaGreatDoor
