/- What Twins of the layer of names answers: the places of texts that are there already. Conditions: a list of 2^32 texts at most, each no longer than memory holds. -/
import Derived.Test.YtkbiepcnjieekaaNamesPlace
import Derived.Maps.OwnOps
import Derived.Maps.Views
import Derived.StringKeys
namespace Go.Proofs.Ytkbiepcnjieekaa
open Go.RowKit NamesSpec Go.Lib Go.Maps

theorem law_str : Keyed Try.prog 9 := string_keyed Try.underlying9
theorem zero_int (w : World) : (zeroValue 3).run Try.prog w = .ok (.int .i64 0) w := by kernel_rfl
theorem info_int : (Try.prog.info? 3).map (fun i => (i.zero, i.size, i.bytes)) = some (some (.int .i64 0), 1, 8) := by kernel_rfl
theorem info_str : (Try.prog.info? 9).map (fun i => (i.zero, i.size, i.bytes)) = some (some (.string ByteArray.empty), 1, 16) := by kernel_rfl
theorem makeMap_hint {t k e : TypeId} {kd : IntKind} (ht : Try.prog.underlying t = some (.map k e)) (n : Int) (w : World) :
    (Instr.makeMap t (some (.int kd n))).run Try.prog w = .ok (.map (some w.heap.size)) (w.alloc (.map #[] 0)) := by
  simp [Instr.makeMap, run_underlying ht]; rfl

def keyL (s : ByteArray) : Lit := .string s.data.toList
def intL (c : Int) : DataW Unit := .lit (.int .i64 c)
/-- The map holds how often each text has come. -/
def Counts (l : List ByteArray) (k : Nat) (D : DataW Unit) : Prop := IsMap D ∧ ∀ s, D.atKey (keyL s) (intL 0) = intL (times (l.take k) s)

theorem keyL_is (s : ByteArray) : WideAt.IsKeyLit (keyL s) := trivial
theorem counts_start (l : List ByteArray) : Counts l 0 (.map []) := ⟨isMap_empty, fun _ => rfl⟩
theorem keyL_inj {s t : ByteArray} (h : keyL s = keyL t) : s = t := by
  unfold keyL at h
  injection h with h
  exact ByteArray.ext (Array.toList_inj.mp h)
theorem intL_inj {a b : Int} (h : intL a = intL b) : a = b := by
  unfold intL at h
  injection h with h
  injection h
theorem counts_next {l : List ByteArray} {k : Nat} {D : DataW Unit} {s : ByteArray} (h : Counts l k D) (hs : l[k]? = some s) (hkey : WideAt.IsKeyLit (keyL s)) : Counts l (k + 1) (D.put (keyL s) (intL (times (l.take k) s + 1))) := by
  refine ⟨h.1.put _ _, fun x => ?_⟩
  rw [take_next hs, times_snoc]
  by_cases hx : s = x
  · subst hx
    rw [atKey_put_same h.1 hkey, if_pos rfl]
  · rw [atKey_put_other (fun e => hx (keyL_inj e).symm), h.2 x, if_neg hx]
    simp

def TwinsRel (W : World) (l : List ByteArray) (n : Nat) (pv iv : Value) (wr : World) : Prop :=
  ∃ (k : Nat) (D : DataW Unit), k ≤ n ∧ iv = .int .i64 k ∧ Counts l k D ∧ wr.ownsMap Try.prog 9 (plainElem Try.prog 3) W.heap.size k D ∧
    wr.ownsRow (W.heap.size + 1) 3 1 pv (twinsTo l k).length (intV (twinsTo l k)) ∧ Below W.heap.size W wr ∧ W.heap.size + 1 ≤ wr.heap.size

theorem row_kept {w w1 : World} {B : Nat} {e : TypeId} {p : Value} {n : Nat} {xs : List Value} (h : w.ownsRow (B + 1) e 1 p n xs) (hg : w.grownBy w1 (some B)) : w1.ownsRow (B + 1) e 1 p n xs :=
  h.kept hg (.inr (row_ne_low h (Nat.lt_succ_self _)).symm)
theorem twins_keep {W wr w1 : World} {l : List ByteArray} {n k : Nat} {D : DataW Unit} {p : Value} (hk : k < n) (hD : Counts l (k + 1) D) (hown : w1.ownsMap Try.prog 9 (plainElem Try.prog 3) W.heap.size (k + 1) D)
    (hrow : wr.ownsRow (W.heap.size + 1) 3 1 p (twinsTo l k).length (intV (twinsTo l k))) (hg : wr.grownBy w1 (some W.heap.size)) (hb : Below W.heap.size W wr) (hsz : W.heap.size + 1 ≤ wr.heap.size) (he : twinsTo l (k + 1) = twinsTo l k) :
    TwinsRel W l n p (.int .i64 ((k : Int) + 1)) w1 := by
  refine ⟨k + 1, D, hk, by simp, hD, hown, ?_, hb.grown hg hb.size (fun j hj => by cases hj; exact Nat.le_refl _), Nat.le_trans hsz hg.size⟩
  rw [he]
  exact row_kept hrow hg
theorem twins_add {W wr w1 w2 : World} {l : List ByteArray} {n k : Nat} {D : DataW Unit} {p p' : Value} {o : Obj} (hk : k < n) (hD : Counts l (k + 1) D) (hown : w1.ownsMap Try.prog 9 (plainElem Try.prog 3) W.heap.size (k + 1) D)
    (hrow : w1.ownsRow (W.heap.size + 1) 3 1 p (twinsTo l k).length (intV (twinsTo l k))) (hg : wr.grownBy w1 (some W.heap.size)) (hb : Below W.heap.size W wr) (hsz : W.heap.size + 1 ≤ wr.heap.size) (he : twinsTo l (k + 1) = twinsTo l k ++ [(k : Int)])
    (hrow2 : w2.ownsRow (W.heap.size + 1) 3 1 p' ((twinsTo l k).length + (intV [(k : Int)]).length) (intV (twinsTo l k) ++ intV [(k : Int)])) (hg2 : (w1.alloc o).grownBy w2 p.ownBlock) :
    TwinsRel W l n p' (.int .i64 ((k : Int) + 1)) w2 := by
  have hb1 : Below W.heap.size W w1 := hb.grown hg hb.size (fun j hj => by cases hj; exact Nat.le_refl _)
  have hne := row_ne_low hrow (Nat.lt_succ_self _)
  refine ⟨k + 1, D, hk, by simp, hD, (hown.alloc o).kept hg2 hne, ?_, (hb1.alloc hb1.size o).grown hg2 (by have := hb1.size; simp; omega) (fun j hj => ?_), ?_⟩
  · rw [he, ← intV_append, List.length_append]; exact hrow2
  · have := hrow.lt j hj; omega
  · have h1 := hg2.size; have h2 := hg.size; rw [World.size_alloc] at h1; omega

set_option maxHeartbeats 1600000 in
theorem twins_any (v : Value) (l : List ByteArray) (w : World) (h : Rd w v (strV l)) (hl : l.length ≤ 4294967296) (hs : ∀ s ∈ l, s.size ≤ maxLen) :
    Calls Try.prog 15 #[v] w (RetInts w (twins l)) := by
  obtain ⟨A, n, c, rfl, hn, hc, hA⟩ := h.strs
  have HA := Lib.hid hA
  have HN := Lib.hid hn
  have HS := Lib.hid hs
  have hm' : n ≤ 4294967296 := by omega
  obtain ⟨i0, hi, hz0, hz1, hz2⟩ := info_parts info_int
  have hmm := makeMap_hint (kd := .i64) Try.underlying35
  clear hA hn h hc hl hs
  go_enter Try.func15, Try.ntmps15
  go_wp2
  go_loopw [3, 12] (fun p i wr => TwinsRel w l n p i wr) (fun _ i _ => n - (intOf i).toNat)
  case atStart => exact ⟨0, .map [], Nat.zero_le _, rfl, counts_start l, World.ownsMap_made _ _ _ _, World.ownsRow_nil _ _ _ _, (Below.refl _ _).alloc (Nat.le_refl _) _, by simp⟩
  case round =>
    obtain ⟨k, D, hk, rfl, hD, hown, hrow, hbw, hsz⟩ := hrel
    by_cases hlt : k < n
    · obtain ⟨b, off, rfl, hb, hcell⟩ := HA.out (by omega)
      obtain ⟨x, hx⟩ : ∃ x, l[k]? = some x := get_some (by have := HN.out; omega)
      have hck : wr.cell? ⟨b, off + k, none⟩ = some (.string x) := (hbw.cell (by exact hb)).trans (hcell k x hx)
      have hkey : keyOf Try.prog 9 (.string x) = some (keyL x) := Go.WideMaps.keyOf_string_mk Try.underlying9 (HS.out x (List.mem_of_getElem? hx))
      obtain ⟨t, ht⟩ : ∃ t, t = times (l.take k) x := ⟨_, rfl⟩
      have htb := times_bd (l.take k) x
      have htl : (l.take k).length ≤ k := List.length_take_le _ _
      rw [← ht] at htb
      obtain ⟨ht0, ht1⟩ := htb
      have ht2 : t ≤ k := by omega
      have HT : Hid (∀ c : Int, D.atKey (keyL x) (.lit (.int .i64 0)) = .lit (.int .i64 c) → c = t) := Lib.hid (fun c hc => by rw [ht]; exact intL_inj (hc.symm.trans (hD.2 x)))
      have HD : Hid (Counts l (k + 1) (D.put (keyL x) (intL (t + 1)))) := Lib.hid (by rw [ht]; exact counts_next hD hx (keyL_is x))
      have HU : Hid (∀ c : Int, (D.put (keyL x) (intL (t + 1))).atKey (keyL x) (.lit (.int .i64 0)) = .lit (.int .i64 c) → c = t + 1) := Lib.hid (fun c hc => intL_inj (hc.symm.trans (atKey_put_same hD.1 (keyL_is x) _ _)))
      have hth := times_has (l.take k) x
      rw [← ht] at hth
      have HX := Lib.hid hx
      have HW : Hid (Below w.heap.size w wr) := Lib.hid hbw
      have hlen := twinsTo_length l k
      rcases hm : hasS (l.take k) x with _ | _
      · have hle : t ≤ 0 := by rw [hm] at hth; simpa using hth
        have HE := Lib.hid (twinsTo_no hx hm)
        clear hcell hx ht hD hth hm hbw htl hlen
        go_wp2_with (first
          | (at_lookup; refine wpList_lookup_own_int _ rfl _ _ 35 rfl 9 3 .i64 law_str Try.underlying35 Try.underlying3 (zero_int _) w.heap.size k _ rfl hown _ _ rfl hkey ?_; intro c hat _; obtain rfl := HT.out c hat; clear hat)
          | (at_lookup; refine wpList_lookup_own_int _ rfl _ _ 35 rfl 9 3 .i64 law_str Try.underlying35 Try.underlying3 (zero_int _) w.heap.size (k + 1) _ rfl hown1 _ _ rfl hkey ?_; intro c hat _; obtain rfl := HU.out c hat; clear hat)
          | (at_mapUpdate; refine wpList_mapUpdate_own _ rfl _ _ _ 35 rfl 9 3 law_str Try.underlying35 _ w.heap.size k _ rfl hown (by unfold maxLen; omega) _ _ _ rfl rfl hkey _ [] (plainElem_int Try.underlying3 (WalkArith.wf_i64 (by omega))) ?_; intro w1 hown1 hgrow1))
        go_roundw
        case rel => exact twins_keep hlt HD.out hown1 hrow hgrow1 HW.out hsz HE.out
        case measure => simp [intOf]; omega
      · have hle : 0 < t := by rw [hm] at hth; simpa using hth
        have HE := Lib.hid (twinsTo_yes hx hm)
        have HL1 : Hid ((twinsTo l k).length + (intV [(k : Int)]).length ≤ maxLen) := Lib.hid (by simp [maxLen]; omega)
        have HL2 : Hid (((twinsTo l k).length + (intV [(k : Int)]).length) * 8 ≤ 140737488355328) := Lib.hid (by simp; omega)
        clear hcell hx ht hD hth hm hbw htl hlen
        go_wp2_with (first
          | (at_lookup; refine wpList_lookup_own_int _ rfl _ _ 35 rfl 9 3 .i64 law_str Try.underlying35 Try.underlying3 (zero_int _) w.heap.size k _ rfl hown _ _ rfl hkey ?_; intro c hat _; obtain rfl := HT.out c hat; clear hat)
          | (at_lookup; refine wpList_lookup_own_int _ rfl _ _ 35 rfl 9 3 .i64 law_str Try.underlying35 Try.underlying3 (zero_int _) w.heap.size (k + 1) _ rfl hown1 _ _ rfl hkey ?_; intro c hat _; obtain rfl := HU.out c hat; clear hat)
          | (at_mapUpdate; refine wpList_mapUpdate_own _ rfl _ _ _ 35 rfl 9 3 law_str Try.underlying35 _ w.heap.size k _ rfl hown (by unfold maxLen; omega) _ _ _ rfl rfl hkey _ [] (plainElem_int Try.underlying3 (WalkArith.wf_i64 (by omega))) ?_; intro w1 hown1 hgrow1; have hrow1 := row_kept hrow hgrow1)
          | (at_builtin; go_loud (refine wpList_append_rd _ rfl (.tmp 25) (.tmp 27) _ rfl (w.heap.size + 1) 3 i0 (.int .i64 0) 8 Try.underlying28 hi hz0 hz1 hz2 rfl _ _ _ rfl (hrow1.alloc _) _ (intV [(k : Int)]) rfl (Rd.lit (cs := #[.int .i64 k]) rfl) (intV_one _) HL1.out HL2.out ?_ ?_; (have := hgrow1.size; simp; omega); intro p2 w2 hrow2 hg2 _)))
        go_roundw
        case rel => exact twins_add hlt HD.out hown1 hrow1 hgrow1 HW.out hsz HE.out hrow2 hg2
        case measure => simp [intOf]; omega
    · obtain rfl : k = n := by omega
      have := HN.out
      go_wp2
      go_ret
      exact ⟨_, rfl, by unfold twins; rw [HN.out]; exact Rd.own hrow, hbw⟩
end Go.Proofs.Ytkbiepcnjieekaa
