/- What the program's reader does (pass, skip, next). Conditions: a text no longer than memory holds; the table of marks of two bytes holds what it was laid with; the reader stands at a place of the text. -/
import Derived.Test.YthmhlhegmnpagaaDoorScanMark
import Derived.RegionTactic
import Derived.ChangeAlike
import Derived.Deep.LoopGhost
namespace Go.Proofs.YthmhlhegmnpagaaDoor
open Go.RowKit ScanSpec

/-- Block B holds a reader: what is left, the line and the byte. -/
def RdrAt (w : World) (B : Nat) (r : ByteArray) (a b : Int) : Prop := w.heap[B]? = some (.cells #[.string r, .int .i64 a, .int .i64 b] 37 (0, 0))
theorem RdrAt.lt {w : World} {B : Nat} {r : ByteArray} {a b : Int} (h : RdrAt w B r a b) : B < w.heap.size := (Array.getElem?_eq_some_iff.1 h).1
/-- Nothing but block B has changed, and blocks may have come. -/
theorem but_refl (w : World) (v : Option Nat) : w.grownBy w v := ⟨rfl, rfl, rfl, Nat.le_refl _, fun _ _ _ => rfl⟩
theorem but_trans {a b c : World} {B : Nat} (h : a.grownBy b (some B)) (k : b.grownBy c (some B)) : a.grownBy c (some B) :=
  ⟨k.os.trans h.os, k.tape.trans h.tape, k.output.trans h.output, Nat.le_trans h.size k.size, fun i hi hn => (k.block i (Nat.lt_of_lt_of_le hi h.size) hn).trans (h.block i hi hn)⟩
theorem but_set {a b : World} {B : Nat} (h : a.grownBy b (some B)) (i : Nat) (u : Value) : a.grownBy (b.setCell ⟨B, i, none⟩ u) (some B) :=
  but_trans h ⟨rfl, rfl, rfl, by simp [World.setCell], fun k _ hn => Below.heap_setCell _ _ _ _ (by intro e; exact hn (by rw [e]))⟩
theorem but_set_new {a b : World} {B : Nat} (h : a.grownBy b (some B)) {k : Nat} (hk : a.heap.size ≤ k) (i : Nat) (u : Value) : a.grownBy (b.setCell ⟨k, i, none⟩ u) (some B) :=
  ⟨h.os, h.tape, h.output, by simp [World.setCell]; exact h.size, fun j hj hn => (Below.heap_setCell _ _ _ _ (by simp; omega)).trans (h.block j hj hn)⟩
theorem but_alloc {a b : World} {B : Nat} (h : a.grownBy b (some B)) (o : Obj) : a.grownBy (b.alloc o) (some B) :=
  ⟨h.os, h.tape, h.output, by simp; exact Nat.le_succ_of_le h.size, fun j hj hn => (Below.heap_alloc _ _ _ (Nat.lt_of_lt_of_le hj h.size)).trans (h.block j hj hn)⟩
theorem but_drew {a b : World} {B : Nat} (h : a.grownBy b (some B)) : a.grownBy b.drew (some B) := ⟨h.os, h.tape, h.output, h.size, h.block⟩

def PassPost (w : World) (B : Nat) (r : ByteArray) (n : Nat) (a b : Int) (e : Ending) (w' : World) : Prop := e = .returned (.tuple #[]) ∧ RdrAt w' B (r.extract n r.size) a (b + n) ∧ w.grownBy w' (some B)
set_option maxHeartbeats 1000000 in
theorem pass_any (B : Nat) (r : ByteArray) (n : Nat) (a b : Int) (w : World) (h : RdrAt w B r a b) (hn : n ≤ r.size) (hr : r.size ≤ 9223372036854775807) (hb0 : 0 ≤ b) (hb : b + n ≤ 9223372036854775807) :
    Calls Tryd.prog 15 #[.pointer (some ⟨B, 0, none⟩), .int .i64 n] w (PassPost w B r n a b) := by
  have hI : (n : Int) ≤ (r.size : Int) := by omega
  have h1 : RdrAt (w.setCell ⟨B, 0, none⟩ (.string (r.extract n r.size))) B (r.extract n r.size) a b := by
    have := block_setCell' h 0 (.string (r.extract n r.size))
    exact this
  have h2 : RdrAt ((w.setCell ⟨B, 0, none⟩ (.string (r.extract n r.size))).setCell ⟨B, 2, none⟩ (.int .i64 (b + n))) B (r.extract n r.size) a (b + n) := by
    have := block_setCell' h1 2 (.int .i64 (b + n))
    exact this
  have c0 : w.cell? ⟨B, 0, none⟩ = some (.string r) := cell_of_block' h (i := 0) rfl
  have f0 := free_of_block' h 0
  have c2 : (w.setCell ⟨B, 0, none⟩ (.string (r.extract n r.size))).cell? ⟨B, 2, none⟩ = some (.int .i64 b) := cell_of_block' h1 (i := 2) rfl
  have f2 := free_of_block' h1 2
  have HR : Hid (PassPost w B r n a b (.returned (.tuple #[])) ((w.setCell ⟨B, 0, none⟩ (.string (r.extract n r.size))).setCell ⟨B, 2, none⟩ (.int .i64 (b + n)))) :=
    Lib.hid ⟨rfl, h2, but_set (but_set (but_refl w _) 0 _) 2 _⟩
  clear h h1 h2
  go_enter Tryd.func15, Tryd.ntmps15
  go_wp2_with fail
  go_end0
  exact HR.out

/-- The reader stands at a place of the text. -/
def StandsAt (w : World) (B : Nat) (s : ByteArray) (j : Nat) : Prop := RdrAt w B (s.extract j s.size) (pos s.data.toList j).1 (pos s.data.toList j).2
theorem stands_on {w : World} {B : Nat} {s r : ByteArray} {j n : Nat} {a b : Int} (h : RdrAt w B (r.extract n r.size) a (b + n)) (hr : r = s.extract j s.size) (hp : pos s.data.toList (j + n) = (a, b + n)) : StandsAt w B s (j + n) := by
  subst hr
  rw [extract_extract] at h
  unfold StandsAt
  rw [hp]
  exact h
def SkipRel (w : World) (B : Nat) (s : ByteArray) (i k : Nat) (wr : World) : Prop :=
  ∃ j, j ≤ s.size ∧ k = s.size - j ∧ gap s.data.toList j = gap s.data.toList i ∧ StandsAt wr B s j ∧ w.grownBy wr (some B)
def SkipPost (w : World) (B : Nat) (s : ByteArray) (i : Nat) (e : Ending) (w' : World) : Prop := e = .returned (.tuple #[]) ∧ StandsAt w' B s (gap s.data.toList i) ∧ w.grownBy w' (some B)
theorem skip_stop {w wr : World} {B i j k : Nat} {s : ByteArray} (hk : k = s.size - j) (hg : gap s.data.toList j = gap s.data.toList i) (hR : StandsAt wr B s j) (hb : w.grownBy wr (some B)) (h4 : ¬ cls s.data.toList j = 4) (h5 : ¬ cls s.data.toList j = 5) :
    SkipPost w B s i (.returned (.tuple #[])) wr := by
  rw [gap_stop h4 h5] at hg
  exact ⟨rfl, hg ▸ hR, hb⟩
theorem skip_blank {w wr w2 : World} {B i j k : Nat} {s r : ByteArray} {a b : Int} (hj : j < s.size) (hk : k = s.size - j) (hg : gap s.data.toList j = gap s.data.toList i) (hr : r = s.extract j s.size) (ha : (pos s.data.toList j) = (a, b)) (hb : w.grownBy wr (some B))
    (h4 : cls s.data.toList j = 4) (h10 : ∀ c, s.data.toList[j]? = some c → c.toNat ≠ 10) (h : RdrAt w2 B (r.extract 1 r.size) a (b + (1 : Nat))) (hb2 : wr.grownBy w2 (some B)) : SkipRel w B s i (s.size - (j + 1)) w2 := by
  refine ⟨j + 1, by omega, rfl, (gap_blank h4).trans hg, stands_on h hr ?_, but_trans hb hb2⟩
  have hc := byte_at' s j hj
  rw [pos_next hc, if_neg (h10 _ hc), ha]; rfl
theorem skip_line {w wr w2 : World} {B i j k : Nat} {s r : ByteArray} {a b : Int} (hj : j < s.size) (hk : k = s.size - j) (hg : gap s.data.toList j = gap s.data.toList i) (hr : r = s.extract j s.size) (ha : (pos s.data.toList j) = (a, b)) (hb : w.grownBy wr (some B))
    (h4 : cls s.data.toList j = 4) (h10 : ∀ c, s.data.toList[j]? = some c → c.toNat = 10) (h : RdrAt w2 B (r.extract 1 r.size) (a + 1) 1) (hb2 : wr.grownBy w2 (some B)) : SkipRel w B s i (s.size - (j + 1)) w2 := by
  refine ⟨j + 1, by omega, rfl, (gap_blank h4).trans hg, ?_, but_trans hb hb2⟩
  have hc := byte_at' s j hj
  unfold StandsAt
  rw [pos_next hc, if_pos (h10 _ hc), ha]
  subst hr
  rw [extract_extract] at h
  exact h
theorem skip_remark {w wr w2 : World} {B i j k n : Nat} {s r : ByteArray} {a b : Int} (hj : j < s.size) (hk : k = s.size - j) (hg : gap s.data.toList j = gap s.data.toList i) (hr : r = s.extract j s.size) (ha : (pos s.data.toList j) = (a, b)) (hb : w.grownBy wr (some B))
    (h5 : cls s.data.toList j = 5) (hn : n = run notNl r.data.toList) (h : RdrAt w2 B (r.extract n r.size) a (b + n)) (hb2 : wr.grownBy w2 (some B)) : SkipRel w B s i (s.size - (j + n)) w2 ∧ s.size - (j + n) < k := by
  have h1 := gap_past h5
  have h2 := cls_5_run h5
  have e : run notNl (s.data.toList.drop j) = n := by rw [hn, hr, extract_drop]
  rw [e] at h1 h2
  have hle := run_le notNl (s.data.toList.drop j)
  rw [e, List.length_drop, size_list'] at hle
  exact ⟨⟨j + n, by omega, rfl, h1.1.trans hg, stands_on h hr (by rw [h1.2, ha]), but_trans hb hb2⟩, by omega⟩

set_option maxHeartbeats 4000000 in
theorem skip_any (B i : Nat) (s : ByteArray) (w : World) (hi : i ≤ s.size) (hs : s.size ≤ 9223372036854775800) (h : StandsAt w B s i) : Calls Tryd.prog 13 #[.pointer (some ⟨B, 0, none⟩)] w (SkipPost w B s i) := by
  have HS := Lib.hid h
  clear h
  go_enter Tryd.func13, Tryd.ntmps13
  go_wp2_with fail
  go_loopg [6] (s.size - i) (fun k u wr => SkipRel w B s i k wr)
  case atStart => exact ⟨i, hi, rfl, rfl, HS.out, but_refl _ _⟩
  case round =>
    obtain ⟨j, hj, hk, hg, hR, hb⟩ := hrel
    have hpb := pos_bd s.data.toList j
    obtain ⟨a, ha⟩ : ∃ a, a = (pos s.data.toList j).1 := ⟨_, rfl⟩
    obtain ⟨b, hbb⟩ : ∃ b, b = (pos s.data.toList j).2 := ⟨_, rfl⟩
    have HA : Hid (pos s.data.toList j = (a, b)) := Lib.hid (by rw [ha, hbb])
    rw [← ha, ← hbb] at hpb
    obtain ⟨p1, p2, p3, p4⟩ := hpb
    obtain ⟨r, hr⟩ : ∃ r, r = s.extract j s.size := ⟨_, rfl⟩
    have hsz : r.size = s.size - j := by rw [hr, extract_size']
    have HR : Hid (RdrAt wr B r a b) := Lib.hid (by have := hR; unfold StandsAt at this; rwa [← hr, ← ha, ← hbb] at this)
    have c0 : wr.cell? ⟨B, 0, none⟩ = some (.string r) := cell_of_block' HR.out (i := 0) rfl
    have HSt := Lib.hid hR
    have HG := Lib.hid hg
    have HK := Lib.hid hk
    have HB := Lib.hid hb
    have HRr := Lib.hid hr
    clear ha hbb hR hg hk hb
    by_cases hlt : j < s.size
    · have hrs : 0 < r.size := by omega
      have hrs2 : r.size ≤ 9223372036854775800 := by omega
      have hne := txt_ne hrs
      have hb0 : s.data.toList[j]? = some r[0] := by
        have := byte_at' r 0 hrs
        rw [← this]
        subst hr
        rw [extract_drop, List.getElem?_drop]; rfl
      have HB0 := Lib.hid hb0
      have hcl := Lib.hid (cls_some hb0)
      have hsj : r.size + j ≤ s.size := by omega
      clear hb0 hr hsz
      have hv := clsB_val r[0] _ rfl
      rcases hv with ⟨h1, h2, hc⟩ | ⟨h1, h2, hc⟩ | ⟨h1, hc⟩ | ⟨h1, hc⟩ | ⟨h1, hc⟩ | ⟨h1, n1, n2, n3, n4, n5, n6, hc⟩
      · have e32 : ((r[0].toNat : Int) == 32) = false := by simp; omega
        have e9 : ((r[0].toNat : Int) == 9) = false := by simp; omega
        have e13 : ((r[0].toNat : Int) == 13) = false := by simp; omega
        have e10 : ((r[0].toNat : Int) == 10) = false := by simp; omega
        have e35 : ((r[0].toNat : Int) == 35) = false := by simp; omega
        clear h1 h2
        have HS2 := Lib.hid (skip_stop HK.out HG.out HSt.out HB.out (by rw [hcl.out, hc]; decide) (by rw [hcl.out, hc]; decide))
        clear hc hcl
        go_wp2_with fail
        refine bodyPost_ret (results_none rfl _ _ _) rfl ?_
        exact HS2.out
      · have e32 : ((r[0].toNat : Int) == 32) = false := by simp; omega
        have e9 : ((r[0].toNat : Int) == 9) = false := by simp; omega
        have e13 : ((r[0].toNat : Int) == 13) = false := by simp; omega
        have e10 : ((r[0].toNat : Int) == 10) = false := by simp; omega
        have e35 : ((r[0].toNat : Int) == 35) = false := by simp; omega
        clear h1 h2
        have HS2 := Lib.hid (skip_stop HK.out HG.out HSt.out HB.out (by rw [hcl.out, hc]; decide) (by rw [hcl.out, hc]; decide))
        clear hc hcl
        go_wp2_with fail
        refine bodyPost_ret (results_none rfl _ _ _) rfl ?_
        exact HS2.out
      · have e32 : ((r[0].toNat : Int) == 32) = false := by simp; omega
        have e9 : ((r[0].toNat : Int) == 9) = false := by simp; omega
        have e13 : ((r[0].toNat : Int) == 13) = false := by simp; omega
        have e10 : ((r[0].toNat : Int) == 10) = false := by simp; omega
        have e35 : ((r[0].toNat : Int) == 35) = false := by simp; omega
        clear h1
        have HS2 := Lib.hid (skip_stop HK.out HG.out HSt.out HB.out (by rw [hcl.out, hc]; decide) (by rw [hcl.out, hc]; decide))
        clear hc hcl
        go_wp2_with fail
        refine bodyPost_ret (results_none rfl _ _ _) rfl ?_
        exact HS2.out
      · rcases h1 with h1 | h1 | h1 | h1
        · have e32 : ((r[0].toNat : Int) == 32) = true := by simp; omega
          have HC := Lib.hid (fun w h => pass_any B r 1 a b w h (by omega) (by omega) (by omega) (by omega))
          have HCl : Hid (cls s.data.toList j = 4 ∧ ∀ c, s.data.toList[j]? = some c → c.toNat ≠ 10) := Lib.hid ⟨hcl.out.trans hc, fun c h => by rw [HB0.out] at h; cases h; omega⟩
          clear hc h1 hcl
          go_wp2_with fail
          refine (HC.out _ HR.out).mono ?_
          rintro e w2 ⟨rfl, hR2, hb2⟩
          have HN := Lib.hid (skip_blank hlt HK.out HG.out HRr.out HA.out HB.out HCl.out.1 HCl.out.2 hR2 hb2)
          have HM : Hid (s.size - (j + 1) < gk) := Lib.hid (by have := HK.out; omega)
          clear hR2 hb2
          go_wp2_with fail
          go_roundg (s.size - (j + 1))
          case rel => exact HN.out
          case measure => exact HM.out
        · have e32 : ((r[0].toNat : Int) == 32) = false := by simp; omega
          have e9 : ((r[0].toNat : Int) == 9) = true := by simp; omega
          have HC := Lib.hid (fun w h => pass_any B r 1 a b w h (by omega) (by omega) (by omega) (by omega))
          have HCl : Hid (cls s.data.toList j = 4 ∧ ∀ c, s.data.toList[j]? = some c → c.toNat ≠ 10) := Lib.hid ⟨hcl.out.trans hc, fun c h => by rw [HB0.out] at h; cases h; omega⟩
          clear hc h1 hcl
          go_wp2_with fail
          refine (HC.out _ HR.out).mono ?_
          rintro e w2 ⟨rfl, hR2, hb2⟩
          have HN := Lib.hid (skip_blank hlt HK.out HG.out HRr.out HA.out HB.out HCl.out.1 HCl.out.2 hR2 hb2)
          have HM : Hid (s.size - (j + 1) < gk) := Lib.hid (by have := HK.out; omega)
          clear hR2 hb2
          go_wp2_with fail
          go_roundg (s.size - (j + 1))
          case rel => exact HN.out
          case measure => exact HM.out
        · have e32 : ((r[0].toNat : Int) == 32) = false := by simp; omega
          have e9 : ((r[0].toNat : Int) == 9) = false := by simp; omega
          have e13 : ((r[0].toNat : Int) == 13) = false := by simp; omega
          have e10 : ((r[0].toNat : Int) == 10) = true := by simp; omega
          have HC := Lib.hid (fun w h => pass_any B r 1 a b w h (by omega) (by omega) (by omega) (by omega))
          have HCl : Hid (cls s.data.toList j = 4 ∧ ∀ c, s.data.toList[j]? = some c → c.toNat = 10) := Lib.hid ⟨hcl.out.trans hc, fun c h => by rw [HB0.out] at h; cases h; omega⟩
          clear hc h1 hcl
          go_wp2_with fail
          refine (HC.out _ HR.out).mono ?_
          rintro e w2 ⟨rfl, hR2, hb2⟩
          have q1 : RdrAt (w2.setCell ⟨B, 1, none⟩ (.int .i64 (a + 1))) B (r.extract 1 r.size) (a + 1) (b + (1 : Nat)) := block_setCell' hR2 1 _
          have q2 : RdrAt ((w2.setCell ⟨B, 1, none⟩ (.int .i64 (a + 1))).setCell ⟨B, 2, none⟩ (.int .i64 1)) B (r.extract 1 r.size) (a + 1) 1 := block_setCell' q1 2 _
          have d1 : w2.cell? ⟨B, 1, none⟩ = some (.int .i64 a) := cell_of_block' hR2 (i := 1) rfl
          have d2 : w2.cell? ⟨B, 2, none⟩ = some (.int .i64 (b + (1 : Nat))) := cell_of_block' hR2 (i := 2) rfl
          have g1 := free_of_block' hR2 1
          have g2 := free_of_block' hR2 2
          have HN := Lib.hid (skip_line hlt HK.out HG.out HRr.out HA.out HB.out HCl.out.1 HCl.out.2 q2 (but_set (but_set hb2 1 _) 2 _))
          have HM : Hid (s.size - (j + 1) < gk) := Lib.hid (by have := HK.out; omega)
          clear hR2 hb2 q1 q2
          go_wp2_with fail
          go_roundg (s.size - (j + 1))
          case rel => exact HN.out
          case measure => exact HM.out
        · have e32 : ((r[0].toNat : Int) == 32) = false := by simp; omega
          have e9 : ((r[0].toNat : Int) == 9) = false := by simp; omega
          have e13 : ((r[0].toNat : Int) == 13) = true := by simp; omega
          have HC := Lib.hid (fun w h => pass_any B r 1 a b w h (by omega) (by omega) (by omega) (by omega))
          have HCl : Hid (cls s.data.toList j = 4 ∧ ∀ c, s.data.toList[j]? = some c → c.toNat ≠ 10) := Lib.hid ⟨hcl.out.trans hc, fun c h => by rw [HB0.out] at h; cases h; omega⟩
          clear hc h1 hcl
          go_wp2_with fail
          refine (HC.out _ HR.out).mono ?_
          rintro e w2 ⟨rfl, hR2, hb2⟩
          have HN := Lib.hid (skip_blank hlt HK.out HG.out HRr.out HA.out HB.out HCl.out.1 HCl.out.2 hR2 hb2)
          have HM : Hid (s.size - (j + 1) < gk) := Lib.hid (by have := HK.out; omega)
          clear hR2 hb2
          go_wp2_with fail
          go_roundg (s.size - (j + 1))
          case rel => exact HN.out
          case measure => exact HM.out
      · have e32 : ((r[0].toNat : Int) == 32) = false := by simp; omega
        have e9 : ((r[0].toNat : Int) == 9) = false := by simp; omega
        have e13 : ((r[0].toNat : Int) == 13) = false := by simp; omega
        have e10 : ((r[0].toNat : Int) == 10) = false := by simp; omega
        have e35 : ((r[0].toNat : Int) == 35) = true := by simp; omega
        have hrl := run_le notNl r.data.toList
        rw [size_list'] at hrl
        have HRm := Lib.hid (fun w => remark_any r w (by omega))
        obtain ⟨m, hm⟩ : ∃ m, m = run notNl r.data.toList := ⟨_, rfl⟩
        rw [← hm] at HRm hrl
        have HMm := Lib.hid hm
        have HC := Lib.hid (fun w h => pass_any B r m a b w h (by omega) (by omega) (by omega) (by omega))
        have HCl : Hid (cls s.data.toList j = 5) := Lib.hid (hcl.out.trans hc)
        clear hc h1 hcl hm
        go_wp2_with (go_at_call 18; (with_reducible refine (HRm.out _).mono ?_); rintro e w' ⟨rfl, rfl⟩)
        refine (HC.out _ HR.out).mono ?_
        rintro e w2 ⟨rfl, hR2, hb2⟩
        have HN := Lib.hid (skip_remark hlt HK.out HG.out HRr.out HA.out HB.out HCl.out HMm.out hR2 hb2)
        clear hR2 hb2
        go_wp2_with fail
        go_roundg (s.size - (j + m))
        case rel => exact HN.out.1
        case measure => exact HN.out.2
      · have e32 : ((r[0].toNat : Int) == 32) = false := by simp; omega
        have e9 : ((r[0].toNat : Int) == 9) = false := by simp; omega
        have e13 : ((r[0].toNat : Int) == 13) = false := by simp; omega
        have e10 : ((r[0].toNat : Int) == 10) = false := by simp; omega
        have e35 : ((r[0].toNat : Int) == 35) = false := by simp; omega
        clear h1 n1 n2 n3 n4 n5 n6
        have HS2 := Lib.hid (skip_stop HK.out HG.out HSt.out HB.out (by rw [hcl.out, hc]; decide) (by rw [hcl.out, hc]; decide))
        clear hc hcl
        go_wp2_with fail
        refine bodyPost_ret (results_none rfl _ _ _) rfl ?_
        exact HS2.out
    · have hcl := cls_none (l := s.data.toList) (i := j) (by rw [size_list']; omega)
      have HS2 := Lib.hid (skip_stop HK.out HG.out HSt.out HB.out (by rw [hcl]; decide) (by rw [hcl]; decide))
      have hr0 : r.size = 0 := by omega
      have hl : r.toList = [] := by rw [ByteArray.toList_eq, ← List.length_eq_zero_iff]; exact hr0
      clear hcl hr hsz hr0
      go_wp2_with fail
      go_end0
      exact HS2.out
end Go.Proofs.YthmhlhegmnpagaaDoor
