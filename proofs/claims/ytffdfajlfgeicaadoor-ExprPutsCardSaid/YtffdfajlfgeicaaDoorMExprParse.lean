/- ExprParse, joined. -/
import Derived.Test.YtffdfajlfgeicaaDoorMExprRead
import Derived.Test.YtffdfajlfgeicaaDoorMCurB
import Derived.Test.YtffdfajlfgeicaaDoorMScanB
namespace Go.Proofs.YtffdfajlfgeicaaDoor
open Go.RowKit CurSpec TermSpec ExprSpec NamesSpec ScanSpec
set_option maxRecDepth 100000

def tokOf (s : ByteArray) (t : Tok) : Tk := ⟨t.kind, s.extract t.at_ (t.at_ + t.len), (pos s.data.toList t.at_).1, (pos s.data.toList t.at_).2⟩
theorem toks_map (s : ByteArray) (l : List Tok) : toksV s l = tksV (l.map (tokOf s)) := by
  unfold toksV tksV
  rw [List.flatMap_map]
  rfl
def tkAll (s : ByteArray) : List Tk := (scanT s.data.toList).1.map (tokOf s)
def cur0 (L : List Tk) : Cur := ⟨L, 0, 0, 0, 0, 0⟩
/-- The whole of a text: the terms, the error. -/
def endP (r : Pa) : List Tm × Int := if (want r.1 0 ⟨#[]⟩).bad ≠ 0 then ([], (want r.1 0 ⟨#[]⟩).bad) else (r.2, 0)
def parseP (s : ByteArray) : List Tm × Int :=
  if (scanT s.data.toList).2.2 ≠ 0 then ([], (scanT s.data.toList).2.2) else endP (readP ((tkAll s).length + 1) (cur0 (tkAll s)))
theorem scanGo_len (l : List UInt8) : ∀ (f i : Nat) (acc : List Tok), acc.length ≤ 4000 → (scanGo l f i acc).1.length ≤ 4001
  | 0, i, acc, h => by simp [scanGo]; omega
  | f + 1, i, acc, h => by
    unfold scanGo
    split
    · simp; omega
    · dsimp only
      split
      · simp
      split
      · simp
      · exact scanGo_len l f _ _ (by simp; omega)
theorem scanT_len (l : List UInt8) : (scanT l).1.length ≤ 4001 := by
  unfold scanT
  split
  · simp
  · exact scanGo_len l _ _ _ (by simp)
theorem tkAll_len (s : ByteArray) : (tkAll s).length ≤ 4001 := by unfold tkAll; rw [List.length_map]; exact scanT_len _
theorem tkAll_ok (s : ByteArray) (h : s.size ≤ 9223372036854775807) : Ok (cur0 (tkAll s)) := by
  intro t ht
  obtain ⟨x, _, rfl⟩ := List.mem_map.1 ht
  show (s.extract _ _).size ≤ _
  rw [ByteArray.size_extract]
  omega
theorem fit_all (L : List Tk) : Fit (L.length + 1) (cur0 L) := fun _ => Nat.lt_succ_self _

def RetParse (W : World) (p : List Tm × Int) (e : Ending) (w' : World) : Prop := ∃ A n cp, e = .returned (.tuple #[.slice A n cp, .int .i64 p.2]) ∧ Tms w' (.slice A n cp) p.1 ∧ n = p.1.length ∧ Below W.heap.size W w'
theorem Tms.but {w w' : World} {A : Option Addr} {n cp B : Nat} {l : List Tm} (h : Tms w (.slice A n cp) l) (hb : w.grownBy w' (some B)) (hne : (Value.slice A n cp).ownBlock ≠ some B) : Tms w' (.slice A n cp) l := by
  obtain ⟨m, hm, A', c', heq, hc, hl, hA⟩ := h
  cases heq
  refine ⟨n, hm, A, cp, rfl, hc, hl, fun h0 => ?_⟩
  obtain ⟨b, off, rfl, hlt, hcell⟩ := hA h0
  refine ⟨b, off, rfl, Nat.lt_of_lt_of_le hlt hb.size, fun j u hj => ?_⟩
  rw [← hcell j u hj]
  have := hb.block b hlt (fun e => hne (by rw [← e]; rfl))
  simp [World.cell?, this]

set_option maxHeartbeats 4000000 in
theorem parse_any (s : ByteArray) (w : World) (hp : PairsIn w) (hs : SignsIn w) (hz : s.size ≤ 9223372036854775807) :
    Calls Tryd.prog 8 #[.string s] w (RetParse w (parseP s)) := by
  have HT := Lib.hid (stoks_any s w hp)
  have HS := Lib.hid hs
  have HZ := Lib.hid hz
  clear hp hs hz
  by_cases he : (scanT s.data.toList).2.2 = 0
  · have HP : Hid (parseP s = endP (readP ((tkAll s).length + 1) (cur0 (tkAll s)))) := Lib.hid (if_neg (fun h => h he))
    have HE := Lib.hid he
    clear he
    go_enter Tryd.func8, Tryd.ntmps8
    go_wp2_with (go_at_call 20; (with_reducible refine HT.out.mono ?_))
    rintro e x1 ⟨hb1, -, hv⟩
    obtain ⟨v, rfl, hvv⟩ := hv HE.out
    clear hv
    obtain ⟨A, cp, rfl, hrest⟩ := hvv
    obtain ⟨n, hn⟩ : ∃ n, n = (scanT s.data.toList).1.length := ⟨_, rfl⟩
    rw [← hn] at hrest ⊢
    have hT : Toks x1 (.slice A n cp) (tkAll s) := ⟨n, by rw [hn]; simp [tkAll], A, cp, rfl, hrest.1, by rw [show tkAll s = (scanT s.data.toList).1.map (tokOf s) from rfl, ← toks_map]; exact hrest.2.1, by rw [show tkAll s = (scanT s.data.toList).1.map (tokOf s) from rfl, ← toks_map]; exact hrest.2.2⟩
    have HNEW := Lib.hid (new_any A n cp (tkAll s) _ (hT.alloc (.cells #[.int .i64 0, .int .i64 0] 31)) (by have := scanT_len s.data.toList; omega))
    have HB1 := Lib.hid (hb1.alloc hb1.size (.cells #[.int .i64 0, .int .i64 0] 31))
    clear hb1 hrest hn hT
    go_wp2_with (go_at_call 11; (with_reducible refine HNEW.out.mono ?_))
    rintro e x2 ⟨B, rfl, hBs, hC2, hb2⟩
    have HB2 := Lib.hid (below_two' HB1.out hb2)
    have HBS := Lib.hid (Nat.le_trans HB1.out.size hBs)
    have HRD := Lib.hid (read_at B (cur0 (tkAll s)) ((tkAll s).length + 1) x2 (HS.out.keep HB2.out) hC2 (tkAll_ok s HZ.out) (fit_all (tkAll s)))
    obtain ⟨r, hr⟩ : ∃ r, r = readP ((tkAll s).length + 1) (cur0 (tkAll s)) := ⟨_, rfl⟩
    rw [← hr] at HRD
    have HR := Lib.hid hr
    clear hBs hC2 hb2 hr
    go_wp2_with (go_at_call 12; (with_reducible refine HRD.out.mono ?_))
    rintro e x3 ⟨A3, n3, c3, rfl, hC3, hT3, hn3, hb3, hne3⟩
    have HW := Lib.hid (want_at B r.1 0 ⟨#[]⟩ x3 hC3)
    obtain ⟨d, hdd⟩ : ∃ d, d = want r.1 0 ⟨#[]⟩ := ⟨_, rfl⟩
    rw [← hdd] at HW
    have HD := Lib.hid hdd
    clear hdd
    have H3 := Lib.hid (And.intro hT3 (And.intro hn3 (And.intro hb3 hne3)))
    clear hC3 hT3 hn3 hb3 hne3
    go_wp2_with (go_at_call 21; (with_reducible refine HW.out.mono ?_))
    rintro e x4 ⟨rfl, hC4, hb4⟩
    have H4 := Lib.hid (And.intro (H3.out.1.but hb4 H3.out.2.2.2) (but_trans H3.out.2.2.1 hb4))
    have HF := Lib.hid (fault_any _ _ _ _ x4 (Fl.of hC4))
    have HBB : Hid (∀ x5, Below x4.heap.size x4 x5 → Below w.heap.size w x5) := Lib.hid (fun x5 h5 => by
      have hg := but_trans H4.out.2 (but_below h5)
      exact HB2.out.trans ⟨hg.os, hg.tape, hg.output, hg.size, fun i hi => hg.block i (Nat.lt_of_lt_of_le hi HB2.out.size) (by have := HBS.out; simp; omega)⟩)
    clear hC4 hb4
    by_cases hd : d.bad = 0
    · have HQ : Hid (endP r = (r.2, 0)) := Lib.hid (if_neg (fun h => h (by rw [← HD.out]; exact hd)))
      have e1 : (d.bad != 0) = false := by simpa using hd
      clear hd
      go_wp2_with (go_at_call 14; (with_reducible refine HF.out.mono ?_))
      rintro e x5 ⟨rfl, hb5⟩
      have HB5 := Lib.hid hb5
      clear hb5
      go_wp2_with fail
      go_ret2
      rw [HP.out, ← HR.out, HQ.out]
      exact ⟨A3, n3, c3, rfl, (H4.out.1.keep HB5.out).alloc _, H3.out.2.1, (HBB.out _ HB5.out).alloc (HBB.out _ HB5.out).size _⟩
    · have HQ : Hid (endP r = ([], d.bad)) := Lib.hid (by rw [HD.out]; exact if_pos (by rw [← HD.out]; exact hd))
      have e1 : (d.bad != 0) = true := by simpa using hd
      clear hd
      go_wp2_with (go_at_call 14; (with_reducible refine HF.out.mono ?_))
      rintro e x5 ⟨rfl, hb5⟩
      have HB5 := Lib.hid hb5
      clear hb5
      go_wp2_with fail
      go_ret2
      rw [HP.out, ← HR.out, HQ.out]
      exact ⟨none, 0, 0, rfl, tms_nil _, rfl, (HBB.out _ HB5.out).alloc (HBB.out _ HB5.out).size _⟩
  · have HP : Hid (parseP s = ([], (scanT s.data.toList).2.2)) := Lib.hid (if_pos he)
    have e1 : ((scanT s.data.toList).2.2 != 0) = true := by simpa using he
    have HE := Lib.hid he
    clear he
    go_enter Tryd.func8, Tryd.ntmps8
    go_wp2_with (go_at_call 20; (with_reducible refine HT.out.mono ?_))
    rintro e x1 ⟨hb1, hv, -⟩
    obtain rfl := hv HE.out
    have HB1 := Lib.hid hb1
    clear hb1 hv
    go_wp2_with fail
    go_ret2
    rw [HP.out]
    exact ⟨none, 0, 0, rfl, tms_nil _, rfl, HB1.out.alloc HB1.out.size _⟩
end Go.Proofs.YtffdfajlfgeicaaDoor
