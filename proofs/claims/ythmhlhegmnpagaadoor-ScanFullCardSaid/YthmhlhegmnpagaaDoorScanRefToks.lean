/- What the reference's Tokens of the layer of tokens answers. Condition: a text no longer than memory holds. -/
import Derived.Test.YthmhlhegmnpagaaDoorScanRefOne
import Derived.Test.YthmhlhegmnpagaaDoorKitN
import Derived.Deep.RegionHeld3
namespace Go.Proofs.YthmhlhegmnpagaaDoor
open Go.RowKit ScanSpec

theorem info_tok : (Tryd.prog.info? 34).map (fun i => (i.zero, i.size, i.bytes)) = some (some (.agg #[.int .i64 0, .string ByteArray.empty, .int .i64 0, .int .i64 0]), 4, 40) := by kernel_rfl

/-- A token's cells. -/
def tokV (s : ByteArray) (t : Tok) : List Value := [.int .i64 t.kind, .string (s.extract t.at_ (t.at_ + t.len)), .int .i64 (pos s.data.toList t.at_).1, .int .i64 (pos s.data.toList t.at_).2]
def toksV (s : ByteArray) (l : List Tok) : List Value := l.flatMap (tokV s)
theorem tokV_length (s : ByteArray) (t : Tok) : (tokV s t).length = 4 := rfl
/-- A token's cells, by its two ends. -/
def tokC (s : ByteArray) (kd : Int) (i k : Nat) : List Value := [.int .i64 kd, .string (s.extract i k), .int .i64 (pos s.data.toList i).1, .int .i64 (pos s.data.toList i).2]
theorem tokC_one (s : ByteArray) (kd : Int) (i k : Nat) : ∀ u ∈ tokC s kd i k, u.oneCell' = true := by simp [tokC, Value.oneCell']
theorem tokC_eq {s : ByteArray} {kd : Int} {i ln k : Nat} (h : k = i + ln) : tokC s kd i k = tokV s ⟨kd, i, ln⟩ := by subst h; rfl
theorem toksV_length (s : ByteArray) (l : List Tok) : (toksV s l).length = l.length * 4 := flat_length (tokV_length s) l
theorem toksV_snoc (s : ByteArray) (l : List Tok) (t : Tok) : toksV s l ++ tokV s t = toksV s (l ++ [t]) := by simp [toksV]
theorem tokV_one (s : ByteArray) (t : Tok) : ∀ u ∈ tokV s t, u.oneCell' = true := by simp [tokV, Value.oneCell']

/-- All tokens of a text, or where its first fault is, and which. -/
def scanT (l : List UInt8) : List Tok × Nat × Int := if 65536 < l.length then ([], 0, 5) else scan l

theorem one_bd (d : List UInt8) (hd : 0 < d.length) : ((one d).2.2 = 0 → 1 ≤ (one d).2.1 ∧ (one d).2.1 ≤ d.length) ∧ ((one d).2.2 = 0 ∨ (one d).2.2 = 2 ∨ (one d).2.2 = 5) ∧ (0 ≤ (one d).1 ∧ (one d).1 ≤ 3) := by
  obtain ⟨c, hc⟩ : ∃ c, d[0]? = some c := get_some hd
  have hd0 : d.drop 0 = d := rfl
  have hml : markLen d ≤ d.length := by
    unfold markLen
    cases hf : marks.find? fun m => m.isPrefixOf d with
    | none => simp
    | some m =>
      have := List.find?_some hf
      rw [List.isPrefixOf_iff_prefix] at this
      exact this.length_le
  unfold one
  split
  · rename_i h1
    have hp : 0 < run isWord d := by
      have := run_pos (p := isWord) (l := d) (i := 0) hc (by rw [cls_some hc] at h1; simp [isWord, h1])
      rwa [hd0] at this
    have := run_le isWord d
    split <;> simp <;> omega
  · split
    · rename_i h1 h2
      have hp : 0 < run isNum d := by
        have := run_pos (p := isNum) (l := d) (i := 0) hc (by rw [cls_some hc] at h2; simp [isNum, h2])
        rwa [hd0] at this
      have := run_le isNum d
      split
      · simp
      · split <;> simp <;> omega
    · split <;> simp <;> omega

theorem scanGo_end {l : List UInt8} {f i : Nat} {acc : List Tok} (h : l.length ≤ i) : scanGo l f i acc = (acc ++ [⟨0, i, 0⟩], 0, 0) := by
  cases f with
  | zero => rfl
  | succ f => rw [scanGo, if_pos h]
theorem scanGo_err {l : List UInt8} {f i : Nat} {acc : List Tok} (h : i < l.length) (he : (one (l.drop i)).2.2 ≠ 0) : scanGo l (f + 1) i acc = ([], i, (one (l.drop i)).2.2) := by
  rw [scanGo, if_neg (by omega)]
  simp only [if_pos he]
theorem scanGo_full {l : List UInt8} {f i : Nat} {acc : List Tok} (h : i < l.length) (he : (one (l.drop i)).2.2 = 0) (hf : acc.length = 4000) : scanGo l (f + 1) i acc = ([], i, 8) := by
  rw [scanGo, if_neg (by omega)]
  simp [he, hf]
theorem scanGo_next {l : List UInt8} {f i : Nat} {acc : List Tok} (h : i < l.length) (he : (one (l.drop i)).2.2 = 0) (hf : acc.length ≠ 4000) :
    scanGo l (f + 1) i acc = scanGo l f (gap l (i + (one (l.drop i)).2.1)) (acc ++ [⟨(one (l.drop i)).1, i, (one (l.drop i)).2.1⟩]) := by
  rw [scanGo, if_neg (by omega)]
  simp [he, hf]

/-- What Tokens leaves. -/
def TokPost (W : World) (s : ByteArray) (e : Ending) (w' : World) : Prop :=
  Below W.heap.size W w' ∧
  ((scanT s.data.toList).2.2 ≠ 0 → e = .returned (.tuple #[.slice none 0 0, .agg #[.int .i64 (pos s.data.toList (scanT s.data.toList).2.1).1, .int .i64 (pos s.data.toList (scanT s.data.toList).2.1).2], .int .i64 (scanT s.data.toList).2.2])) ∧
  ((scanT s.data.toList).2.2 = 0 → ∃ v, e = .returned (.tuple #[v, .agg #[.int .i64 0, .int .i64 0], .int .i64 0]) ∧ Rdk 4 w' v (scanT s.data.toList).1.length (toksV s (scanT s.data.toList).1))

theorem one_ok {s : ByteArray} {i ln k2 : Nat} {kd : Int} (h : one (s.data.toList.drop i) = (kd, ln, 0)) (hk : k2 = i + ln) (hs : s.size ≤ 9223372036854775800) (hi : i ≤ s.size) (w : World) :
    Calls Tryd.prog 11 #[.string s, .int .i64 i] w fun e w' => e = .returned (.tuple #[.int .i64 kd, .int .i64 (k2 : Int), .int .i64 0]) ∧ Below w.heap.size w w' := by
  subst hk
  refine (rone_any s i w hs hi).mono fun e w' ⟨he, hb⟩ => ⟨?_, hb⟩
  rw [he, oneE_ok h]
theorem one_bad {s : ByteArray} {i : Nat} {er : Int} (h : (one (s.data.toList.drop i)).2.2 = er) (hne : er ≠ 0) (hs : s.size ≤ 9223372036854775800) (hi : i ≤ s.size) (w : World) :
    Calls Tryd.prog 11 #[.string s, .int .i64 i] w fun e w' => e = .returned (.tuple #[.int .i64 0, .int .i64 0, .int .i64 er]) ∧ Below w.heap.size w w' := by
  refine (rone_any s i w hs hi).mono fun e w' ⟨he, hb⟩ => ⟨?_, hb⟩
  rw [he]
  unfold oneE
  rw [if_neg (by rw [h]; exact hne), h]
theorem store_pair {w : World} {b : Nat} {T : TypeId} {x y : Value} (h : w.heap[b]? = some (.cells #[x, y] T (0, 0))) (u v : Value) :
    (w.setCell ⟨b, 0, none⟩ u).cell? ⟨b, 0, none⟩ = some u ∧ ((w.setCell ⟨b, 0, none⟩ u).setCell ⟨b, 1, none⟩ v).cell? ⟨b, 1, none⟩ = some v :=
  ⟨cell_of_block' (block_setCell' h 0 u) (i := 0) rfl, cell_of_block' (block_setCell' (block_setCell' h 0 u) 1 v) (i := 1) rfl⟩
theorem tok_bad {W w' : World} {s : ByteArray} {i : Nat} {er : Int} (hb : Below W.heap.size W w') (h : scanT s.data.toList = ([], i, er)) (hne : er ≠ 0) :
    TokPost W s (.returned (.tuple #[.slice none 0 0, .agg #[.int .i64 (pos s.data.toList i).1, .int .i64 (pos s.data.toList i).2], .int .i64 er])) w' :=
  ⟨hb, fun _ => by rw [h], fun h' => by rw [h] at h'; exact absurd h' hne⟩

theorem own_keep {w w' : World} {base n k : Nat} {e : TypeId} {v : Value} {xs : List Value} (h : w.ownsRow base e k v n xs) (hb : Below w.heap.size w w') : w'.ownsRow base e k v n xs := by
  refine ⟨h.1, ?_⟩
  rcases h.2 with h | ⟨g, cap, cur, h1, h2, h3, h4⟩
  · exact .inl h
  · exact .inr ⟨g, cap, cur, h1, h2, (hb.block g (Array.getElem?_eq_some_iff.1 h3).1).trans h3, h4⟩

def TokRel (W : World) (s : ByteArray) (ov iv : Value) (wr : World) : Prop :=
  ∃ (i f g cap n : Nat) (acc : List Tok), iv = .int .i64 i ∧ i ≤ s.size ∧ ov = .slice (some ⟨g, 0, none⟩) n cap ∧ acc.length = n ∧ wr.ownsRow (W.heap.size + 1) 34 4 (.slice (some ⟨g, 0, none⟩) n cap) n (toksV s acc) ∧
    scanGo s.data.toList f i acc = scan s.data.toList ∧ s.size ≤ i + f ∧ n ≤ 4000 ∧ wr.heap[W.heap.size]? = some (.cells #[.int .i64 0, .int .i64 0] 25 (0, 0)) ∧ Below W.heap.size W wr ∧ W.heap.size + 1 ≤ wr.heap.size

theorem tok_start {w : World} {s : ByteArray} (h : gap s.data.toList 0 ≤ s.data.toList.length) : TokRel w s (.slice (some ⟨w.heap.size + 1, 0, none⟩) 0 0) (.int .i64 (gap s.data.toList 0))
    ((w.alloc (.cells #[.int .i64 0, .int .i64 0] 25)).alloc (.cells #[] 34)) := by
  have e := World.size_alloc w (.cells #[.int .i64 0, .int .i64 0] 25)
  have ho := World.ownsRow_lit (base := w.heap.size + 1) (e := 34) (size := 4) (w.alloc (.cells #[.int .i64 0, .int .i64 0] 25)) #[] 0 (by rw [e]; exact Nat.le_refl _) (Nat.zero_le _) rfl
  rw [e] at ho
  refine ⟨gap s.data.toList 0, s.data.toList.length, w.heap.size + 1, 0, 0, [], rfl, h, rfl, rfl, ho, rfl, by rw [size_list']; omega, by omega, (heap_alloc_old _ _ (by simp)).trans (heap_alloc_new _ _), ((Below.refl _ _).alloc (Nat.le_refl _) _).alloc (by simp) _, by simp⟩

theorem tok_next {W w2 w3 w4 : World} {s : ByteArray} {i ln k2 f n g cap gg cap4 : Nat} {kd : Int} {acc : List Tok} {o : Obj} (_hS : scanT s.data.toList = scan s.data.toList) (hO : one (s.data.toList.drop i) = (kd, ln, 0)) (hK : k2 = i + ln) (hN : acc.length = n)
    (hGo : scanGo s.data.toList (f + 1) i acc = scan s.data.toList) (_hi : i ≤ s.size) (hlt : i < s.size) (hf : s.size ≤ i + (f + 1)) (h4 : n ≤ 4000) (hfull : ¬ n = 4000) (gb1 : k2 ≤ gap s.data.toList k2) (gb2 : gap s.data.toList k2 ≤ s.size) (hlnb : i < k2)
    (hr2 : w2.heap[W.heap.size]? = some (.cells #[.int .i64 0, .int .i64 0] 25 (0, 0))) (hb2 : Below W.heap.size W w2) (hsz : W.heap.size + 1 ≤ w2.heap.size) (hb3 : Below w2.heap.size w2 w3)
    (hown3 : w3.ownsRow (W.heap.size + 1) 34 4 (.slice (some ⟨g, 0, none⟩) n cap) n (toksV s acc)) (hg4 : (w3.alloc o).grownBy w4 (some g))
    (hown4 : w4.ownsRow (W.heap.size + 1) 34 4 (.slice (some ⟨gg, 0, none⟩) (n + 1) cap4) (n + 1) (toksV s acc ++ tokC s kd i k2)) :
    TokRel W s (.slice (some ⟨gg, 0, none⟩) (n + 1) cap4) (.int .i64 (gap s.data.toList k2)) w4 := by
  have hg := (hown3.lt g rfl).1
  have h3 : Below W.heap.size W w3 := hb2.trans (hb3.mono (by omega))
  have hs3 := hb3.size
  have hs4 := hg4.size
  rw [World.size_alloc] at hs4
  refine ⟨gap s.data.toList k2, f, gg, cap4, n + 1, acc ++ [⟨kd, i, ln⟩], rfl, gb2, rfl, by simp [hN], ?_, ?_, by omega, by omega, ?_, (h3.alloc h3.size o).grown hg4 (by simp; omega) (fun k hk => by cases hk; omega), by omega⟩
  · rw [← toksV_snoc, ← tokC_eq hK]; exact hown4
  · rw [← hGo, scanGo_next (by rw [size_list']; exact hlt) (by rw [hO]) (by rw [hN]; exact hfull), hO, hK]
  · rw [hg4.block W.heap.size (by simp; omega) (by simp; omega), heap_alloc_old _ _ (by omega), hb3.block _ (by omega), hr2]

/-- The end's cells. -/
def endC (s : ByteArray) (i : Nat) : List Value := [.int .i64 0, .string ByteArray.empty, .int .i64 (pos s.data.toList i).1, .int .i64 (pos s.data.toList i).2]
theorem endC_one (s : ByteArray) (i : Nat) : ∀ u ∈ endC s i, u.oneCell' = true := by simp [endC, Value.oneCell']
theorem endC_eq (s : ByteArray) (i : Nat) : endC s i = tokV s ⟨0, i, 0⟩ := by
  have e : s.extract i (i + 0) = ByteArray.empty := by
    apply ByteArray.ext
    simp [ByteArray.data_extract]
  unfold endC tokV
  rw [e]
theorem tok_end {W w4 : World} {s : ByteArray} {i f n gg cap4 : Nat} {acc : List Tok} {u v : Value} (hS : scanT s.data.toList = scan s.data.toList) (hN : acc.length = n) (hGo : scanGo s.data.toList f i acc = scan s.data.toList) (hge : s.size ≤ i)
    (hown4 : w4.ownsRow (W.heap.size + 1) 34 4 (.slice (some ⟨gg, 0, none⟩) (n + 1) cap4) (n + 1) (toksV s acc ++ endC s i)) (hb4 : Below W.heap.size W w4) :
    TokPost W s (.returned (.tuple #[.slice (some ⟨gg, 0, none⟩) (n + 1) cap4, .agg #[.int .i64 0, .int .i64 0], .int .i64 0])) ((w4.setCell ⟨W.heap.size, 0, none⟩ u).setCell ⟨W.heap.size, 1, none⟩ v) := by
  have e : scanT s.data.toList = (acc ++ [⟨0, i, 0⟩], 0, 0) := by rw [hS, ← hGo, scanGo_end (by rw [size_list']; exact hge)]
  refine ⟨(hb4.setCell (Nat.le_refl _) _).setCell (Nat.le_refl _) _, fun h => by rw [e] at h; exact absurd rfl h, fun _ => ⟨_, rfl, ?_⟩⟩
  rw [e]
  have h5 : ((w4.setCell ⟨W.heap.size, 0, none⟩ u).setCell ⟨W.heap.size, 1, none⟩ v).ownsRow (W.heap.size + 1) 34 4 (.slice (some ⟨gg, 0, none⟩) (n + 1) cap4) (n + 1) (toksV s acc ++ endC s i) :=
    ownsRow_setCell_below (ownsRow_setCell_below hown4 (by simp) u) (by simp) v
  rw [endC_eq, toksV_snoc] at h5
  have hl : (acc ++ [(⟨0, i, 0⟩ : Tok)]).length = n + 1 := by simp [hN]
  rw [← hl] at h5
  have := Rdk.own h5
  rwa [hl] at this ⊢

theorem end_block {B : Nat} {w3 w4 : World} {o : Obj} {c : Obj} {g n cap : Nat} (h : w3.heap[B]? = some c) (hg : B + 1 ≤ g) (hgr : (w3.alloc o).grownBy w4 (Value.ownBlock (.slice (some ⟨g, 0, none⟩) n cap))) : w4.heap[B]? = some c := by
  have hlt := (Array.getElem?_eq_some_iff.1 h).1
  rw [hgr.block B (by simp; omega) (by simp [Value.ownBlock]; omega), heap_alloc_old _ _ hlt, h]

set_option maxHeartbeats 4000000 in
theorem rtoks_any (s : ByteArray) (w : World) (hs : s.size ≤ 9223372036854775800) : Calls Tryd.prog 7 #[.string s] w (TokPost w s) := by
  obtain ⟨i0, hi, hz0, hz1, hz2⟩ := info_parts info_tok
  by_cases hbig : 65536 < s.size
  · have HS : Hid (scanT s.data.toList = ([], 0, 5)) := Lib.hid (if_pos hbig)
    go_enter Tryd.func7, Tryd.ntmps7
    go_wp2_with fail
    refine bodyPost_ret (v := .tuple #[.slice none 0 0, .agg #[.int .i64 1, .int .i64 1], .int .i64 5]) (by simp [results, Tryd.results7, go_sem]) rfl ⟨?_, fun _ => by rw [HS.out]; rfl, fun h => by rw [HS.out] at h; exact absurd h (by decide)⟩
    exact (Below.refl _ _).alloc (Nat.le_refl _) _
  · have HS : Hid (scanT s.data.toList = scan s.data.toList) := Lib.hid (if_neg hbig)
    have HG := Lib.hid (gap_bd (l := s.data.toList) (i := 0) (Nat.zero_le _)).2
    have HGap := Lib.hid (fun w => rgap_any s 0 w (by omega) (Nat.zero_le _))
    go_enter Tryd.func7, Tryd.ntmps7
    go_wp2_with (go_at_call 10; refine (HGap.out _).mono ?_; rintro e w' ⟨rfl, rfl⟩)
    go_loopw [5, 6] (fun o i wr => TokRel w s o i wr) (fun _ i _ => s.size - (intOf i).toNat)
    case atStart => exact tok_start HG.out
    case round =>
      obtain ⟨i, f, g, cap, n, acc, rfl, hi', rfl, hn, hown, hgo, hf, h4, hr, hbw, hsz⟩ := hrel
      by_cases hlt : i < s.size
      · obtain ⟨o1, o2, o3⟩ := one_bd (s.data.toList.drop i) (by rw [List.length_drop, size_list']; omega)
        obtain ⟨f, rfl⟩ : ∃ f', f = f' + 1 := ⟨f - 1, by omega⟩
        have HOwn := Lib.hid hown
        have HPos := Lib.hid (fun w => rpos_any s i w (by omega) hi')
        have HGo := Lib.hid hgo
        have HN := Lib.hid hn
        obtain ⟨er, her⟩ : ∃ er, er = (one (s.data.toList.drop i)).2.2 := ⟨_, rfl⟩
        by_cases he0 : er = 0
        · subst he0
          obtain ⟨kd, hkd⟩ : ∃ kd, kd = (one (s.data.toList.drop i)).1 := ⟨_, rfl⟩
          obtain ⟨ln, hln⟩ : ∃ ln, ln = (one (s.data.toList.drop i)).2.1 := ⟨_, rfl⟩
          have hone : one (s.data.toList.drop i) = (kd, ln, 0) := by rw [hkd, hln, her]
          obtain ⟨k2, hk2⟩ : ∃ k2, k2 = i + ln := ⟨_, rfl⟩
          have HOne := Lib.hid (fun w => one_ok hone hk2 hs hi' w)
          have HK := Lib.hid hk2
          have hln1 : 1 ≤ ln := by rw [hln]; exact (o1 her.symm).1
          have hln2 : i + ln ≤ s.size := by
            have := (o1 her.symm).2
            rw [← hln, List.length_drop, size_list'] at this
            omega
          have hlnb : i < k2 := by omega
          have hlnc : k2 ≤ s.size := by omega
          have hI0 : (0 : Int) ≤ (i : Int) := by omega
          have hI1 : (i : Int) ≤ (k2 : Int) := by omega
          have hI2 : (k2 : Int) ≤ (s.size : Int) := by omega
          have HO := Lib.hid hone
          clear o1 o2 o3 hkd hln hone her hk2 hln1 hln2
          by_cases hfull : n = 4000
          · have e4 : ((n : Int) == 4000) = true := by simp; omega
            have HT : Hid (scanT s.data.toList = ([], i, 8)) := Lib.hid (by
              rw [HS.out, ← HGo.out, scanGo_full (by rw [size_list']; exact hlt) (by rw [HO.out]) (by rw [HN.out]; exact hfull)])
            clear hfull hown hgo hn
            go_wp2_with (go_at_call 11; refine (HOne.out _).mono ?_)
            rintro e w2 ⟨rfl, hb2'⟩
            have hb2 := hbw.trans (hb2'.mono hbw.size)
            have hr2 := (hb2'.block w.heap.size (by omega)).trans hr
            have hsz2 := hb2'.size
            clear hr hbw hb2'
            go_wp2_with (go_at_call 12; refine (HPos.out _).mono ?_)
            rintro e w3 ⟨rfl, hb3⟩
            have hr3 := (hb3.block w.heap.size (by omega)).trans hr2
            have k0 := cell_of_block' hr3 (i := 0) rfl
            have k1 := cell_of_block' hr3 (i := 1) rfl
            have f0 := free_of_block' hr3 0
            have f1 := free_of_block' hr3 1
            have hs3 := (Array.getElem?_eq_some_iff.1 hr3).1
            have HR3 := Lib.hid hr3
            have HB3 := Lib.hid (below_two' hb2 hb3)
            clear hr3 hr2 hb3 hb2
            go_wp2_with fail
            have q0 := fun u => (store_pair HR3.out u u).1
            have q1 := fun u v => (store_pair HR3.out u v).2
            refine bodyPost_ret (v := .tuple #[.slice none 0 0, .agg #[.int .i64 (pos s.data.toList i).1, .int .i64 (pos s.data.toList i).2], .int .i64 8]) (by simp [results, Tryd.results7, go_sem, q0, q1]) rfl ?_
            exact tok_bad ((HB3.out.setCell (Nat.le_refl _) _).setCell (Nat.le_refl _) _) HT.out (by first | decide | omega)
          · have e4 : ((n : Int) == 4000) = false := by simp; omega
            have HGap2 := Lib.hid (fun w => rgap_any s k2 w (by omega) hlnc)
            obtain ⟨gb1, gb2⟩ := gap_bd (l := s.data.toList) (i := k2) hlnc
            rw [size_list'] at gb2
            clear hgo hn
            go_wp2_with (go_at_call 11; refine (HOne.out _).mono ?_)
            rintro e w2 ⟨rfl, hb2'⟩
            have hb2 := hbw.trans (hb2'.mono hbw.size)
            have hr2 := (hb2'.block w.heap.size (by omega)).trans hr
            have hsz2 := hb2'.size
            have hown2 := own_keep hown hb2'
            clear hr hbw hb2' hown
            go_wp2_with fail
            go_region_held3 (fun w' => True) (trivial)
              ((first
                | (go_at_call 12; refine (HPos.out _).mono ?_; rintro e w3 ⟨rfl, hb3'⟩; have hb3 : Below w2.heap.size w2 w3 := ⟨hb3'.os, hb3'.tape, hb3'.output, hb3'.size, hb3'.block⟩; clear hb3'; have hown3 := own_keep hown2 hb3)
                | (refine step_append_lies _ (by rfl) _ _ _ (by rfl) (w.heap.size + 1) 34 i0 _ 4 40 Tryd.underlying23 hi hz0 hz1 hz2 rfl (by decide) _ n (toksV s acc) (by rfl) ((hown3.alloc _).drew)
                    ⟨w3.heap.size, 0, none⟩ 1 1 (tokC s kd i k2) (by rfl) (by rfl) (World.news_of_block (cs := (tokC s kd i k2).toArray) (t := 34) (fr := (0, 0)) (heap_alloc_new w3 _)) (tokC_one s _ _ _)
                    (by decide) (by unfold maxLen; omega) (by omega) (by have := hb3.size; simp; omega) (w3.heap.size + 1) (by simp) ?_; intro gg cap4 w4 hown4 hgrow4 hat4 hlt4)))
            have hg4 : (w3.alloc (.cells (tokC s kd i k2).toArray 34)).grownBy w4 (some g) := ⟨hgrow4.os, hgrow4.tape, hgrow4.output, hgrow4.size, hgrow4.block⟩
            have HEnd := Lib.hid (tok_next HS.out HO.out HK.out HN.out HGo.out hi' hlt hf h4 hfull gb1 gb2 hlnb hr2 hb2 (by omega) hb3 hown3 hg4 hown4)
            clear hgrow4 hg4 hown4 hown3 hb3 hr2 hb2 hown2
            go_wp2_with (go_at_call 10; refine (HGap2.out _).mono ?_; rintro e w' ⟨rfl, rfl⟩)
            go_roundw
            case rel => exact HEnd.out
            case measure => simp [intOf]; omega
        · have e1 : (er == 0) = false := by simpa using he0
          have e2 : (er != 0) = true := by simpa using he0
          have HOne := Lib.hid (fun w => one_bad her.symm he0 hs hi' w)
          have HT : Hid (scanT s.data.toList = ([], i, er)) := Lib.hid (by
            rw [HS.out, ← HGo.out, scanGo_err (by rw [size_list']; exact hlt) (by rw [← her]; exact he0), ← her])
          clear o1 o2 o3 hown hgo hn
          go_wp2_with (go_at_call 11; refine (HOne.out _).mono ?_)
          rintro e w2 ⟨rfl, hb2'⟩
          have hb2 := hbw.trans (hb2'.mono hbw.size)
          have hr2 := (hb2'.block w.heap.size (by omega)).trans hr
          have hsz2 := hb2'.size
          clear hr hbw hb2' her
          go_wp2_with (go_at_call 12; refine (HPos.out _).mono ?_)
          rintro e w3 ⟨rfl, hb3⟩
          have hr3 := (hb3.block w.heap.size (by omega)).trans hr2
          have k0 := cell_of_block' hr3 (i := 0) rfl
          have k1 := cell_of_block' hr3 (i := 1) rfl
          have f0 := free_of_block' hr3 0
          have f1 := free_of_block' hr3 1
          have hs3 := (Array.getElem?_eq_some_iff.1 hr3).1
          have HR3 := Lib.hid hr3
          have HB3 := Lib.hid (below_two' hb2 hb3)
          clear hr3 hr2 hb3 hb2
          go_wp2_with fail
          have q0 := fun u => (store_pair HR3.out u u).1
          have q1 := fun u v => (store_pair HR3.out u v).2
          refine bodyPost_ret (v := .tuple #[.slice none 0 0, .agg #[.int .i64 (pos s.data.toList i).1, .int .i64 (pos s.data.toList i).2], .int .i64 er]) (by simp [results, Tryd.results7, go_sem, q0, q1]) rfl ?_
          exact tok_bad ((HB3.out.setCell (Nat.le_refl _) _).setCell (Nat.le_refl _) _) HT.out (by first | decide | omega)
      · have HPos := Lib.hid (fun w => rpos_any s i w (by omega) hi')
        have HGo := Lib.hid hgo
        have HN := Lib.hid hn
        clear hgo hn
        go_wp2_with (go_at_call 12; refine (HPos.out _).mono ?_)
        rintro e w3 ⟨rfl, hb3⟩
        have hown3 := own_keep hown hb3
        have hr3 := (hb3.block w.heap.size (by omega)).trans hr
        have hB3 := hbw.trans (hb3.mono hbw.size)
        have hs3 := hb3.size
        have hgb := (hown3.lt g rfl).1
        have HR3 := Lib.hid hr3
        clear hown hb3 hr hbw hr3
        go_wp2_with (at_builtin; refine wpList_append_lies _ rfl (.tmp 56) (.tmp 61) _ rfl (w.heap.size + 1) 34 i0 _ 4 40 Tryd.underlying23 hi hz0 hz1 hz2 rfl (by decide) _ n (toksV s acc) rfl (hown3.alloc _) ⟨w3.heap.size, 0, none⟩ 1 1 (endC s i) rfl rfl (World.news_of_block (cs := (endC s i).toArray) (t := 34) (fr := (0, 0)) (heap_alloc_new w3 _)) (endC_one s _) (by decide) ?_ ?_ ?_ (w3.heap.size + 1) ?_ ?_; (unfold maxLen; omega); omega; (simp; omega); (simp); intro gg cap4 w4 hown4 hgrow4 hat4 hlt4; have hr4 := end_block HR3.out hgb hgrow4; have k0 := cell_of_block' hr4 (i := 0) rfl; have k1 := cell_of_block' hr4 (i := 1) rfl; have f0 := free_of_block' hr4 0; have f1 := free_of_block' hr4 1; have hs4 := (Array.getElem?_eq_some_iff.1 hr4).1; have HR4 := Lib.hid hr4; clear hr4)
        have q0 := fun u => (store_pair HR4.out u u).1
        have q1 := fun u v => (store_pair HR4.out u v).2
        refine bodyPost_ret (v := .tuple #[.slice (some ⟨gg, 0, none⟩) (n + 1) cap4, .agg #[.int .i64 0, .int .i64 0], .int .i64 0]) (by simp [results, Tryd.results7, go_sem, q0, q1]) rfl ?_
        exact tok_end HS.out HN.out HGo.out (by omega) hown4 ((hB3.alloc hB3.size _).grown hgrow4 (by have := hB3.size; simp; omega) (fun k hk => by cases hk; exact Nat.le_trans (Nat.le_succ _) hgb))
end Go.Proofs.YthmhlhegmnpagaaDoor
