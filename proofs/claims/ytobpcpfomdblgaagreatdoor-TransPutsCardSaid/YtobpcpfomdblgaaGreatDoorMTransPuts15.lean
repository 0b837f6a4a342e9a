/- TransAwake, ExprRefLevel, ExprRefPut, joined. -/
import Derived.Test.YtobpcpfomdblgaaGreatDoorMTransPuts13
import Derived.Test.YtobpcpfomdblgaaGreatDoorMTransPuts14
import Derived.Test.YtobpcpfomdblgaaGreatDoorMTransPuts05
import Derived.Test.YtobpcpfomdblgaaGreatDoorMTransPuts12
namespace Go.Proofs.YtobpcpfomdblgaaGreatDoor
open Go.RowKit Go.Sort TermSpec EvalSpec ActSpec NamesSpec ExprSpec TransSpec
set_option maxRecDepth 100000

def twT : List Tm := [⟨15, 0, ⟨#[]⟩⟩, ⟨2, 0, ⟨#[110]⟩⟩, ⟨1, 3, ⟨#[]⟩⟩]
def twX : Tt := ⟨⟨#[111, 112, 101, 110]⟩, some (.bin 15 (.leaf ⟨2, 0, ⟨#[110]⟩⟩) (.leaf ⟨1, 3, ⟨#[]⟩⟩)), [⟨⟨#[110]⟩, true, .leaf ⟨9, 0, ⟨#[]⟩⟩⟩], ⟨#[111, 112, 101, 110, 101, 100]⟩⟩
def twR : Tr := ⟨⟨#[111, 112, 101, 110]⟩, twT, [⟨⟨#[110]⟩, true, []⟩], ⟨#[111, 112, 101, 110, 101, 100]⟩⟩
def twZ : Tt := ⟨⟨#[]⟩, none, [], ⟨#[]⟩⟩
theorem tw_tr : twX.tr = twR := rfl
theorem tz_tr : twZ.tr = zeroT := rfl
theorem tw_text : txT twX = ⟨#[111, 110, 32, 111, 112, 101, 110, 32, 91, 110, 32, 60, 32, 51, 93, 32, 47, 32, 97, 110, 121, 32, 110, 32, 45, 62, 32, 111, 112, 101, 110, 101, 100, 59]⟩ := by kernel_rfl
theorem tz_text : txT twZ = ⟨#[97, 117, 116, 111, 59]⟩ := by kernel_rfl
theorem tw_ok : twX.Ok := by
  refine ⟨by kernel_rfl, by kernel_rfl, fun e he => ?_, fun t ht => ?_, by decide⟩
  · cases he
    exact ⟨⟨by kernel_rfl, ⟨by kernel_rfl, by kernel_rfl⟩, ⟨by kernel_rfl, by kernel_rfl⟩⟩, by kernel_rfl⟩
  · simp only [twX, List.mem_cons, List.not_mem_nil, or_false] at ht
    subst ht
    exact ⟨by kernel_rfl, fun h => by cases h⟩
theorem tz_ok : twZ.Ok := by
  refine ⟨by kernel_rfl, by kernel_rfl, fun e he => ?_, fun t ht => ?_, by decide⟩
  · cases he
  · simp [twZ] at ht
theorem tw_small : SmallT twR := by
  refine ⟨by decide, by decide, fun t ht => ?_, by decide, fun a ha => ?_, by decide⟩
  · simp only [twR, twT, List.mem_cons, List.not_mem_nil, or_false] at ht
    rcases ht with rfl | rfl | rfl <;> decide
  · simp only [twR, List.mem_cons, List.not_mem_nil, or_false] at ha
    subst ha
    exact ⟨by decide, fun t ht => by simp at ht, by decide⟩
theorem tz_small : SmallT zeroT := by
  refine ⟨by decide, by decide, fun t ht => ?_, by decide, fun a ha => ?_, by decide⟩
  · simp at ht
  · simp at ha
theorem tz_in (w : World) : TrIn w none 0 0 none 0 0 zeroT := ⟨tmsNil w, (AcsFar.nil 0 w).acs⟩
abbrev twTO : Obj := .cells #[.int .i64 15, .int .i64 0, .string ⟨#[]⟩, .int .i64 2, .int .i64 0, .string ⟨#[110]⟩, .int .i64 1, .int .i64 3, .string ⟨#[]⟩] 53
abbrev twAO : Obj := .cells #[.string ⟨#[110]⟩, .bool true, .slice none 0 0] 55
abbrev twRO (k : Nat) : Obj := .cells #[.string ⟨#[111, 112, 101, 110]⟩, .slice (some ⟨k, 0, none⟩) 3 3, .slice (some ⟨k + 1, 0, none⟩) 1 1, .string ⟨#[111, 112, 101, 110, 101, 100]⟩] 25
abbrev twV (k : Nat) : Value := .agg #[.string ⟨#[111, 112, 101, 110]⟩, .slice (some ⟨k, 0, none⟩) 3 3, .slice (some ⟨k + 1, 0, none⟩) 1 1, .string ⟨#[111, 112, 101, 110, 101, 100]⟩]
theorem tb_one'' (a : Int) (w : World) : (Instr.build 53 #[(0, .int .i64 a)]).run Tryz.prog w = .ok (.agg #[.int .i64 a, .int .i64 0, .string ⟨#[]⟩]) w := run_build w 53 _ _ (by kernel_rfl)
theorem tb_name'' (a : Int) (s : ByteArray) (w : World) : (Instr.build 53 #[(0, .int .i64 a), (2, .string s)]).run Tryz.prog w = .ok (.agg #[.int .i64 a, .int .i64 0, .string s]) w := run_build w 53 _ _ (by kernel_rfl)
theorem tb_num'' (a b : Int) (w : World) : (Instr.build 53 #[(0, .int .i64 a), (1, .int .i64 b)]).run Tryz.prog w = .ok (.agg #[.int .i64 a, .int .i64 b, .string ⟨#[]⟩]) w := run_build w 53 _ _ (by kernel_rfl)
theorem tb_full (s u : ByteArray) (A B : Option Addr) (n c m d : Nat) (w : World) : (Instr.build 25 #[(0, .string s), (1, .slice A n c), (2, .slice B m d), (3, .string u)]).run Tryz.prog w = .ok (.agg #[.string s, .slice A n c, .slice B m d, .string u]) w := run_build w 25 _ _ (by kernel_rfl)
/-- A row whose block is known whole. -/
theorem rdk_whole {k n c b : Nat} {w : World} {cs : Array Value} {T : TypeId} {fr : Nat × Nat} {xs : List Value} (h : w.heap[b]? = some (.cells cs T fr)) (hx : cs.toList = xs) (hl : xs.length = n * k) (hc : n ≤ c) : Rdk k w (.slice (some ⟨b, 0, none⟩) n c) n xs := by
  refine ⟨_, c, rfl, hc, hl, fun _ => ⟨b, 0, rfl, (Array.getElem?_eq_some_iff.1 h).1, fun j u hj => ?_⟩⟩
  rw [← hx, Array.getElem?_toList] at hj
  simp [World.cell?, h, hj]
set_option maxRecDepth 100000 in
set_option maxHeartbeats 4000000 in
theorem tawake_any (w : World) (hg : SignsIn w) : Calls Tryz.prog 5 #[] w (RetB w true) := by
  have b1 := tb_one''
  have b2 := tb_name''
  have b3 := tb_num''
  have b4 := rb_any
  have b5 := tb_full
  have b6 := tb_zero
  obtain ⟨W3, hW3⟩ : ∃ W3, ((w.alloc twTO).alloc twAO).alloc (twRO w.heap.size) = W3 := ⟨_, rfl⟩
  have hb3 : Below w.heap.size w W3 := by rw [← hW3]; exact below_two' (KitC.below_pair _ _ _) (KitC.below_one _ _)
  have hk0 : W3.heap[w.heap.size]? = some twTO := by
    rw [← hW3]
    have h1 := heap_alloc_new w twTO
    exact KitC.block_on h1 (KitC.below_pair _ _ _)
  have hk1 : W3.heap[w.heap.size + 1]? = some twAO := by
    rw [← hW3]
    have h1 := heap_alloc_new (w.alloc twTO) twAO
    rw [World.size_alloc] at h1
    exact KitC.block_on h1 (KitC.below_one _ _)
  have hk2 : W3.heap[w.heap.size + 2]? = some (twRO w.heap.size) := by
    rw [← hW3]
    have h1 := heap_alloc_new ((w.alloc twTO).alloc twAO) (twRO w.heap.size)
    rwa [World.size_alloc, World.size_alloc] at h1
  have hin : TrIn W3 (some ⟨w.heap.size, 0, none⟩) 3 3 (some ⟨w.heap.size + 1, 0, none⟩) 1 1 twR := by
    refine ⟨⟨3, rfl, rdk_whole hk0 rfl rfl (Nat.le_refl _)⟩, ⟨[⟨⟨⟨#[110]⟩, true, []⟩, none, 0, 0⟩], rfl, rdk_whole hk1 rfl rfl (Nat.le_refl _), fun p hp => ?_⟩⟩
    simp only [List.mem_cons, List.not_mem_nil, or_false] at hp
    subst hp
    exact tmsNil _
  obtain ⟨P, hP⟩ : ∃ P : ByteArray, P = ⟨#[111, 110, 32, 111, 112, 101, 110, 32, 91, 110, 32, 60, 32, 51, 93, 32, 47, 32, 97, 110, 121, 32, 110, 32, 45, 62, 32, 111, 112, 101, 110, 101, 100, 59]⟩ := ⟨_, rfl⟩
  obtain ⟨Q, hQ⟩ : ∃ Q : ByteArray, Q = ⟨#[97, 117, 116, 111, 59]⟩ := ⟨_, rfl⟩
  have HPU : Hid (∀ W, Below W3.heap.size W3 W → Calls Tryz.prog 6 #[twV w.heap.size] W (RetPut W P 0)) := Lib.hid (fun W hW => by
    have := tput_ok twX tw_ok _ 3 3 _ 1 1 W (by rw [tw_tr]; exact tw_small) (by rw [tw_tr]; exact hin.keep hW) (hg.keep (below_two' hb3 hW))
    rw [tw_text, ← hP] at this
    exact this)
  have HPZ : Hid (∀ W, Below W3.heap.size W3 W → Calls Tryz.prog 6 #[.agg #[.string ⟨#[]⟩, .slice none 0 0, .slice none 0 0, .string ⟨#[]⟩]] W (RetPut W Q 0)) := Lib.hid (fun W hW => by
    have := tput_ok twZ tz_ok none 0 0 none 0 0 W (by rw [tz_tr]; exact tz_small) (by rw [tz_tr]; exact tz_in W) (hg.keep (below_two' hb3 hW))
    rw [tz_text, ← hQ] at this
    exact this)
  have HSY : Hid (∀ W, Below W3.heap.size W3 W → Calls Tryz.prog 9 #[twV w.heap.size, twV w.heap.size] W (RetB W true)) := Lib.hid (fun W hW =>
    tsame_any twR twR true (by simp) _ 3 3 _ 1 1 _ 3 3 _ 1 1 W (hin.keep hW) (hin.keep hW) (by decide) (by decide) (fun a ha => (tw_small.acts a ha).2.2))
  have HSN : Hid (∀ W, Below W3.heap.size W3 W → Calls Tryz.prog 9 #[twV w.heap.size, .agg #[.string ⟨#[]⟩, .slice none 0 0, .slice none 0 0, .string ⟨#[]⟩]] W (RetB W false)) := Lib.hid (fun W hW =>
    tsame_any twR zeroT false (by simp [twR, zeroT]) _ 3 3 _ 1 1 none 0 0 none 0 0 W (hin.keep hW) (tz_in W) (by decide) (by decide) (fun a ha => (tw_small.acts a ha).2.2))
  have HB3 := Lib.hid hb3
  have HK2 := Lib.hid hk2
  have HW3 := Lib.hid hW3
  have HP := Lib.hid hP
  have HQ := Lib.hid hQ
  have hsz : w.heap.size + 2 < W3.heap.size := (Array.getElem?_eq_some_iff.1 hk2).1
  have g1 : (P.toList == [111, 110, 32, 111, 112, 101, 110, 32, 91, 110, 32, 60, 32, 51, 93, 32, 47, 32, 97, 110, 121, 32, 110, 32, 45, 62, 32, 111, 112, 101, 110, 101, 100, 59]) = true := by rw [hP]; kernel_rfl
  have g3 : (Q.toList == [97, 117, 116, 111, 59]) = true := by rw [hQ]; kernel_rfl
  obtain ⟨z0, z1, z2, z3⟩ := cells_4 hk2
  clear hW3 hb3 hk0 hk1 hk2 hin hP hQ hg
  go_enter Tryz.func5, Tryz.ntmps5
  go_wp2_with (rw [HW3.out]; go_at_call 6; (with_reducible refine (HPU.out _ (Below.refl _ _)).mono ?_))
  rintro e w4 ⟨rfl, hb⟩
  have HB4 := Lib.hid hb
  clear hb
  go_wp2_with (go_at_call 6; (with_reducible refine (HPZ.out _ HB4.out).mono ?_))
  rintro e w5 ⟨rfl, hb⟩
  have HB5 := Lib.hid (below_two' HB4.out hb)
  clear hb z0 z1 z2 z3
  obtain ⟨z0, z1, z2, z3⟩ := cells_4 (KitC.block_on HK2.out HB5.out)
  go_wp2_with (go_at_call 9; (with_reducible refine (HSY.out _ HB5.out).mono ?_))
  rintro e w6 ⟨rfl, hb⟩
  have HB6 := Lib.hid (below_two' HB5.out hb)
  clear hb z0 z1 z2 z3
  obtain ⟨z0, z1, z2, z3⟩ := cells_4 (KitC.block_on HK2.out HB6.out)
  go_wp2_with (go_at_call 9; (with_reducible refine (HSN.out _ HB6.out).mono ?_))
  rintro e w7 ⟨rfl, hb⟩
  have HB7 := Lib.hid (below_two' HB6.out hb)
  clear hb
  go_wp2_with fail
  go_ret
  exact ⟨rfl, below_two' HB3.out HB7.out⟩
end Go.Proofs.YtobpcpfomdblgaaGreatDoor

namespace Go.Proofs.YtobpcpfomdblgaaGreatDoor
open Go.RowKit CurSpec TermSpec ExprSpec NamesSpec
set_option maxRecDepth 100000

theorem levO_sign {o : Int} {s : Sg} (hs : s ∈ sgs) (ho : s.op = o) : levO o = s.lev := by
  subst ho
  unfold sgs at hs
  simp only [List.mem_cons, List.not_mem_nil, or_false] at hs
  rcases hs with rfl | rfl | rfl | rfl | rfl | rfl | rfl | rfl | rfl | rfl | rfl <;> rfl
theorem sig_mem {k : Int} {j : Nat} {x : Int} (h : (sigO k)[j]? = some x) : ∃ s ∈ sgs, s.lev = k ∧ s.op = x := by
  unfold sigO lvl at h
  have := List.mem_of_getElem? h
  obtain ⟨s, hs, he⟩ := List.mem_map.1 this
  rw [List.mem_filter] at hs
  exact ⟨s, hs.1, by simpa using hs.2, he⟩
theorem sig_all {k : Int} {s : Sg} (hs : s ∈ sgs) (hk : s.lev = k) : s.op ∈ sigO k := by
  unfold sigO lvl
  rw [List.mem_map]
  exact ⟨s, List.mem_filter.2 ⟨hs, by simpa using hk⟩, rfl⟩
theorem sig_few (k : Int) : (sigO k).length ≤ 11 := by
  unfold sigO lvl
  rw [List.length_map]
  exact Nat.le_trans (List.length_filter_le _ _) (by decide)
def LvoRel (W : World) (o : Int) (v : Value) (w : World) : Prop := ∃ k : Nat, 1 ≤ k ∧ k ≤ 7 ∧ v = .int .i64 k ∧ (∀ s ∈ sgs, s.op = o → (k : Int) ≤ s.lev) ∧ Below W.heap.size W w
def LviRel (W : World) (l : List Int) (n : Nat) (o : Int) (v : Value) (w : World) : Prop := ∃ j : Nat, j ≤ n ∧ v = .int .i64 j ∧ (∀ x ∈ l.take j, x ≠ o) ∧ Below W.heap.size W w
theorem rlv_last {o : Int} (h : ∀ s ∈ sgs, s.op = o → (7 : Int) ≤ s.lev) (ho : 0 ≤ ar o) : levO o = if o = 12 then 3 else if o = 3 then 7 else 8 := by
  have hno : ∀ s ∈ sgs, s.op ≠ o := fun s hs he => by have := h s hs he; have := (sgs_all s hs).2.2.1; omega
  by_cases h8 : o = 1 ∨ o = 2 ∨ o = 9 ∨ o = 10 ∨ o = 11 ∨ o = 7 ∨ o = 8
  · rw [show levO o = 8 from if_pos h8, if_neg (by omega), if_neg (by omega)]
  · by_cases h12 : o = 12
    · subst h12; rfl
    · by_cases h3 : o = 3
      · subst h3; rfl
      · exfalso
        have h2 : ar o = 2 := by
          unfold ar at ho ⊢
          split at ho
          · omega
          · split at ho
            · omega
            · split at ho
              · rename_i a b c
                rw [if_neg a, if_neg b, if_pos c]
              · omega
        have := sgOf_mem h2 (by omega)
        exact hno _ this.1 this.2

set_option maxHeartbeats 4000000 in
theorem rlevel_any (o : Int) (w : World) (ho : 0 ≤ ar o) : Calls Tryz.prog 65 #[.int .i64 o] w (RetI w (levO o)) := by
  have HO := Lib.hid ho
  clear ho
  go_enter Tryz.func65, Tryz.ntmps65
  go_wp2_with fail
  go_loopw [3] (fun v wr => LvoRel w o v wr) (fun v _ => 8 - (intOf v).toNat)
  case atStart => exact ⟨1, by decide, by decide, rfl, fun s hs _ => by have := (sgs_all s hs).2.2.1; omega, Below.refl _ _⟩
  case round =>
    obtain ⟨k, hk1, hk7, rfl, hno, hbw⟩ := hrel
    have HNO := Lib.hid hno
    have HB := Lib.hid hbw
    clear hno hbw
    by_cases hk : k < 7
    · have g1 : (k : Int) ≤ 6 := by omega
      go_wp2_with (go_at_call 68; (with_reducible refine (signs_say (k : Int) _).mono ?_))
      rintro e w1 ⟨v1, v2, rfl, -, hr2, -, -, hb1⟩
      have hfew := sig_few (k : Int)
      obtain ⟨l, hl⟩ : ∃ l, l = sigO (k : Int) := ⟨_, rfl⟩
      rw [← hl] at hr2 hfew
      obtain ⟨A2, n2, c2, rfl, hn2, hc2, hA2⟩ := hr2.ints
      have HL := Lib.hid hl
      have HA := Lib.hid hA2
      have HB1 := Lib.hid (below_two' HB.out hb1)
      have HN := Lib.hid hn2
      have hn11 : n2 ≤ 11 := by omega
      clear hb1 hl hr2 hA2 hc2 hn2 hfew
      go_wp2_with fail
      go_loopw [6] (fun v wr => LviRel w1 l n2 o v wr) (fun v _ => n2 - (intOf v).toNat)
      case atStart => exact ⟨0, Nat.zero_le _, rfl, by simp, Below.refl _ _⟩
      case round =>
        obtain ⟨j, hj, rfl, hnj, hbj⟩ := hrel
        have HNJ := Lib.hid hnj
        have HBJ := Lib.hid hbj
        clear hnj hbj
        by_cases hlt : j < n2
        · obtain ⟨b, off, rfl, hb, hcell⟩ := HA.out (by omega)
          obtain ⟨x, hx⟩ : ∃ x, l[j]? = some x := get_some (by rw [HN.out]; exact hlt)
          have c0 := (HBJ.out.cell (p := ⟨b, off + j, none⟩) hb).trans (hcell j x hx)
          have HX := Lib.hid hx
          have hltI : (j : Int) < (n2 : Int) := by omega
          clear hx hcell
          by_cases he : x = o
          · have e1 : (x == o) = true := by simpa using he
            have HE := Lib.hid he
            clear he
            go_wp2_with fail
            go_ret
            refine ⟨?_, below_two' HB1.out HBJ.out⟩
            have hx := HX.out
            rw [HL.out] at hx
            obtain ⟨s, hs, hsl, hso⟩ := sig_mem hx
            rw [levO_sign hs (hso.trans HE.out), hsl]
            rfl
          · have e1 : (x == o) = false := by simpa using he
            have HE := Lib.hid he
            clear he
            go_wp2_with fail
            go_roundw
            case rel =>
              refine ⟨j + 1, hlt, by simp, fun y hy => ?_, HBJ.out⟩
              rw [take_next HX.out, List.mem_append, List.mem_singleton] at hy
              rcases hy with hy | rfl
              · exact HNJ.out y hy
              · exact HE.out
            case measure => simp [intOf]; omega
        · obtain rfl : j = n2 := by omega
          have hge : ¬ (j : Int) < (j : Int) := by omega
          go_wp2_with fail
          go_roundw
          case rel =>
            refine ⟨k + 1, by omega, by omega, by simp, fun s hs he => ?_, below_two' HB1.out HBJ.out⟩
            have h1 := HNO.out s hs he
            by_cases h2 : s.lev = (k : Int)
            · exfalso
              have := sig_all hs h2
              rw [← HL.out] at this
              exact HNJ.out s.op (by rw [List.take_of_length_le (by rw [HN.out]; exact Nat.le_refl _)]; exact this) he
            · omega
          case measure => simp [intOf]; omega
    · obtain rfl : k = 7 := by omega
      have HV := Lib.hid (rlv_last HNO.out HO.out)
      by_cases h12 : o = 12
      · subst h12
        go_wp2_with fail
        go_ret
        exact ⟨rfl, HB.out⟩
      · by_cases h3 : o = 3
        · subst h3
          go_wp2_with fail
          go_ret
          exact ⟨rfl, HB.out⟩
        · have HW : Hid (levO o = 8) := Lib.hid (by rw [HV.out, if_neg h12, if_neg h3])
          have e1 : (o == 12) = false := by simpa using h12
          have e2 : (o == 3) = false := by simpa using h3
          clear h12 h3
          go_wp2_with fail
          go_ret
          exact ⟨by rw [HW.out]; rfl, HB.out⟩
end Go.Proofs.YtobpcpfomdblgaaGreatDoor

namespace Go.Proofs.YtobpcpfomdblgaaGreatDoor
open Go.RowKit CurSpec TermSpec ExprSpec
set_option maxRecDepth 100000

def RPutOk (e : Ex) : Prop := ∀ A n c l (a : Nat) rest (k : Int) W, TxAt W A n c l → l.drop a = flat e ++ rest → Calls Tryz.prog 39 #[.slice A n c, .int .i64 a, .int .i64 k] W (RetS W (bk (lev e < k) (tx e)))
theorem rx_first {A : Option Addr} {n c : Nat} {l : List Tm} {a : Nat} {e : Ex} {rest : List Tm} {W : World} (h : TxAt W A n c l) (hd : l.drop a = flat e ++ rest) (hg : ExprSpec.Good e) :
    ∃ b off t, A = some ⟨b, off, none⟩ ∧ b < W.heap.size ∧ t.op = opE e ∧ a < n ∧ n ≤ 1000 ∧ (∃ r, flat e = t :: r) ∧
      W.cell? ⟨b, off + a * 3, none⟩ = some (.int .i64 t.op) ∧ W.cell? ⟨b, off + a * 3 + 1, none⟩ = some (.int .i64 t.n) ∧ W.cell? ⟨b, off + a * 3 + 2, none⟩ = some (.string t.s) ∧
      (∀ w', Below W.heap.size W w' → Calls Tryz.prog 66 #[.slice A n c, .int .i64 a] w' (RetInts w' (belows l a (arN (opE e))))) ∧
      (∀ w', Calls Tryz.prog 65 #[.int .i64 t.op] w' (RetI w' (lev e))) := by
  obtain ⟨t, r, hf, hop⟩ := flat_first e
  have hla : l[a]? = some t := by
    have : (l.drop a)[0]? = some t := by rw [hd, hf]; rfl
    rwa [List.getElem?_drop] at this
  obtain ⟨b, off, rfl, hb, c0, c1, c2⟩ := h.tms.at_ hla
  have hal := get_lt hla
  have hwf := flat_wf hg
  have hc : cnt 1 (l.drop a) = some (flat e).length := by rw [hd]; exact cnt_more rest hwf.1
  have he : 0 ≤ endA l a := by rw [endA_some hc]; omega
  have har : 0 ≤ ar t.op := by
    have := cnt_valid hwf.1 t (by rw [List.take_of_length_le (Nat.le_refl _), hf]; simp)
    exact this
  refine ⟨b, off, t, rfl, hb, hop, by rw [h.len]; exact hal, h.few, ⟨r, hf⟩, c0, c1, c2, fun w' hw => ?_, fun w' => ?_⟩
  · rw [← hop]
    exact rbelow_any (some ⟨b, off, none⟩) n c l a w' (h.tms.keep hw) h.len (by have := h.few; omega) t hla he
  · rw [lev_opE hg, ← hop]
    exact rlevel_any t.op w' har

set_option maxHeartbeats 4000000 in
theorem rput_leaf {t : Tm} (hg : ExprSpec.Good (.leaf t)) : RPutOk (.leaf t) := by
  intro A n c l a rest k w h hd
  obtain ⟨b, off, t', rfl, hb, hop, hal, hfew, ⟨r, hr⟩, c0, c1, c2, hbl, hlv⟩ := rx_first h hd hg
  obtain rfl : t = t' := by injection hr
  have hal' : (a : Int) < n := by omega
  have ha0 : (0 : Int) ≤ (a : Int) := by omega
  have HB := Lib.hid hbl
  have h1 := leaf_ops hg.1
  have HE : Hid (arN (opE (.leaf t)) = 0) := Lib.hid (by rw [← hop]; unfold arN; rw [hg.1]; rfl)
  rw [HE.out, belows_zero] at HB
  have HLV : Hid (∀ w', Calls Tryz.prog 65 #[.int .i64 t.op] w' (RetI w' 8)) := Lib.hid hlv
  have HBK : Hid (∀ X, tx (.leaf t) = X → bk (lev (.leaf t) < k) (tx (.leaf t)) = if 8 < k then (⟨#[40]⟩ ++ X) ++ ⟨#[41]⟩ else X) := Lib.hid (fun X hX => by subst hX; rfl)
  have hm := hg.2
  clear h hd hop hr hbl hlv HE hg
  by_cases h1 : t.op = 1
  · have hn1 := (may_num h1 hm).1
    have hz := text_size hn1
    have HT : Hid (tx (.leaf t) = bs (ValSpec.text t.n)) := Lib.hid (by unfold tx; rw [if_pos h1])
    rw [h1] at c0 HLV
    obtain ⟨m, hm1⟩ := Int.eq_ofNat_of_zero_le hn1.1
    have htx : ValSpec.text t.n = ValSpec.digs m := by unfold ValSpec.text; rw [if_neg (by omega), hm1]; rfl
    have HPT := Lib.hid (fun w => text_any m m w (Nat.le_refl _) (by omega))
    rw [htx] at HT hz
    obtain ⟨nn, hnn⟩ : ∃ nn, nn = t.n := ⟨_, rfl⟩
    obtain ⟨ss, hss⟩ : ∃ ss, ss = t.s := ⟨_, rfl⟩
    rw [← hnn] at c1
    rw [← hss] at c2
    rw [hm1] at hnn
    obtain ⟨tt, htt⟩ : ∃ tt, tt = bs (ValSpec.digs m) := ⟨_, rfl⟩
    have hz' : tt.size ≤ 12 := by rw [htt]; exact hz
    rw [← htt] at HT
    have HPT' : Hid (∀ W, Calls Tryz.prog 67 #[.int .i64 nn] W fun e w' => e = .returned (.string tt) ∧ W = w') := Lib.hid (by rw [hnn, htt]; exact HPT.out)
    clear hz HPT htt hm1 htx hn1 hnn
    clear hm hss h1
    by_cases h8 : 8 < k
    · have HF : Hid (bk (lev (.leaf t) < k) (tx (.leaf t)) = (⟨#[40]⟩ ++ (tt)) ++ ⟨#[41]⟩) := Lib.hid (by rw [HBK.out _ HT.out, if_pos h8])
      rw [HF.out]
      clear HF HBK HT
      go_enter Tryz.func39, Tryz.ntmps39
      go_wp2_with (go_at_call 65; (with_reducible refine (HLV.out _).mono ?_))
      rintro e w1 ⟨rfl, hb1⟩
      have hk1 := block_on (heap_alloc_new w (.cells #[.int .i64 1, .int .i64 nn, .string ss] 53)) hb1
      have HB1 := Lib.hid (((Below.refl _ _).alloc (Nat.le_refl _) (.cells #[.int .i64 1, .int .i64 nn, .string ss] 53)).trans (hb1.mono (by simp)))
      obtain ⟨p0, p1, p2⟩ := cells_3 hk1
      have HK1 := Lib.hid hk1
      clear hb1 hk1 c0 c1 c2
      go_wp2_with (go_at_call 66; (with_reducible refine (HB.out _ HB1.out).mono ?_))
      rintro e w2 ⟨v, rfl, hr2, hb2⟩
      have HZ := Lib.hid (below_two' HB1.out hb2)
      have hk2 := block_on HK1.out hb2
      have HK2 := Lib.hid hk2
      clear p0 p1 p2 hb2
      obtain ⟨y0, y1, y2⟩ := cells_3 hk2
      clear hk2
      obtain ⟨Ab, nb, cb, rfl, hnb, -, -⟩ := hr2.ints
      obtain rfl : 0 = nb := hnb
      clear hr2
      go_wp2_with (go_at_call 67; (with_reducible refine (HPT'.out _).mono ?_); rintro e w' ⟨rfl, rfl⟩)
      go_ret
      exact ⟨rfl, HZ.out⟩
    · have HF : Hid (bk (lev (.leaf t) < k) (tx (.leaf t)) = tt) := Lib.hid (by rw [HBK.out _ HT.out, if_neg h8])
      rw [HF.out]
      clear HF HBK HT
      go_enter Tryz.func39, Tryz.ntmps39
      go_wp2_with (go_at_call 65; (with_reducible refine (HLV.out _).mono ?_))
      rintro e w1 ⟨rfl, hb1⟩
      have hk1 := block_on (heap_alloc_new w (.cells #[.int .i64 1, .int .i64 nn, .string ss] 53)) hb1
      have HB1 := Lib.hid (((Below.refl _ _).alloc (Nat.le_refl _) (.cells #[.int .i64 1, .int .i64 nn, .string ss] 53)).trans (hb1.mono (by simp)))
      obtain ⟨p0, p1, p2⟩ := cells_3 hk1
      have HK1 := Lib.hid hk1
      clear hb1 hk1 c0 c1 c2
      go_wp2_with (go_at_call 66; (with_reducible refine (HB.out _ HB1.out).mono ?_))
      rintro e w2 ⟨v, rfl, hr2, hb2⟩
      have HZ := Lib.hid (below_two' HB1.out hb2)
      have hk2 := block_on HK1.out hb2
      have HK2 := Lib.hid hk2
      clear p0 p1 p2 hb2
      obtain ⟨y0, y1, y2⟩ := cells_3 hk2
      clear hk2
      obtain ⟨Ab, nb, cb, rfl, hnb, -, -⟩ := hr2.ints
      obtain rfl : 0 = nb := hnb
      clear hr2
      go_wp2_with (go_at_call 67; (with_reducible refine (HPT'.out _).mono ?_); rintro e w' ⟨rfl, rfl⟩)
      go_ret
      exact ⟨rfl, HZ.out⟩
  by_cases h2 : t.op = 2
  · have hz := name_size (ExprSpec.may_name (.inl h2) hm).1
    have HT : Hid (tx (.leaf t) = t.s) := Lib.hid (by unfold tx; rw [if_neg (by omega)]; rw [if_pos h2])
    rw [h2] at c0 HLV
    obtain ⟨nn, hnn⟩ : ∃ nn, nn = t.n := ⟨_, rfl⟩
    obtain ⟨ss, hss⟩ : ∃ ss, ss = t.s := ⟨_, rfl⟩
    rw [← hnn] at c1
    rw [← hss] at c2
    rw [← hss] at HT hz
    clear hnn
    clear hm hss h1
    clear h2
    by_cases h8 : 8 < k
    · have HF : Hid (bk (lev (.leaf t) < k) (tx (.leaf t)) = (⟨#[40]⟩ ++ (ss)) ++ ⟨#[41]⟩) := Lib.hid (by rw [HBK.out _ HT.out, if_pos h8])
      rw [HF.out]
      clear HF HBK HT
      go_enter Tryz.func39, Tryz.ntmps39
      go_wp2_with (go_at_call 65; (with_reducible refine (HLV.out _).mono ?_))
      rintro e w1 ⟨rfl, hb1⟩
      have hk1 := block_on (heap_alloc_new w (.cells #[.int .i64 2, .int .i64 nn, .string ss] 53)) hb1
      have HB1 := Lib.hid (((Below.refl _ _).alloc (Nat.le_refl _) (.cells #[.int .i64 2, .int .i64 nn, .string ss] 53)).trans (hb1.mono (by simp)))
      obtain ⟨p0, p1, p2⟩ := cells_3 hk1
      have HK1 := Lib.hid hk1
      clear hb1 hk1 c0 c1 c2
      go_wp2_with (go_at_call 66; (with_reducible refine (HB.out _ HB1.out).mono ?_))
      rintro e w2 ⟨v, rfl, hr2, hb2⟩
      have HZ := Lib.hid (below_two' HB1.out hb2)
      have hk2 := block_on HK1.out hb2
      have HK2 := Lib.hid hk2
      clear p0 p1 p2 hb2
      obtain ⟨y0, y1, y2⟩ := cells_3 hk2
      clear hk2
      obtain ⟨Ab, nb, cb, rfl, hnb, -, -⟩ := hr2.ints
      obtain rfl : 0 = nb := hnb
      clear hr2
      go_wp2_with fail
      go_ret
      exact ⟨rfl, HZ.out⟩
    · have HF : Hid (bk (lev (.leaf t) < k) (tx (.leaf t)) = ss) := Lib.hid (by rw [HBK.out _ HT.out, if_neg h8])
      rw [HF.out]
      clear HF HBK HT
      go_enter Tryz.func39, Tryz.ntmps39
      go_wp2_with (go_at_call 65; (with_reducible refine (HLV.out _).mono ?_))
      rintro e w1 ⟨rfl, hb1⟩
      have hk1 := block_on (heap_alloc_new w (.cells #[.int .i64 2, .int .i64 nn, .string ss] 53)) hb1
      have HB1 := Lib.hid (((Below.refl _ _).alloc (Nat.le_refl _) (.cells #[.int .i64 2, .int .i64 nn, .string ss] 53)).trans (hb1.mono (by simp)))
      obtain ⟨p0, p1, p2⟩ := cells_3 hk1
      have HK1 := Lib.hid hk1
      clear hb1 hk1 c0 c1 c2
      go_wp2_with (go_at_call 66; (with_reducible refine (HB.out _ HB1.out).mono ?_))
      rintro e w2 ⟨v, rfl, hr2, hb2⟩
      have HZ := Lib.hid (below_two' HB1.out hb2)
      have hk2 := block_on HK1.out hb2
      have HK2 := Lib.hid hk2
      clear p0 p1 p2 hb2
      obtain ⟨y0, y1, y2⟩ := cells_3 hk2
      clear hk2
      obtain ⟨Ab, nb, cb, rfl, hnb, -, -⟩ := hr2.ints
      obtain rfl : 0 = nb := hnb
      clear hr2
      go_wp2_with fail
      go_ret
      exact ⟨rfl, HZ.out⟩
  by_cases h9 : t.op = 9
  · have HT : Hid (tx (.leaf t) = ⟨#[116, 114, 117, 101]⟩) := Lib.hid (by unfold tx; rw [if_neg (by omega)]; rw [if_neg (by omega)]; rw [if_pos h9])
    rw [h9] at c0 HLV
    obtain ⟨nn, hnn⟩ : ∃ nn, nn = t.n := ⟨_, rfl⟩
    obtain ⟨ss, hss⟩ : ∃ ss, ss = t.s := ⟨_, rfl⟩
    rw [← hnn] at c1
    rw [← hss] at c2
    clear hnn
    clear hm hss h1
    clear h2
    clear h9
    by_cases h8 : 8 < k
    · have HF : Hid (bk (lev (.leaf t) < k) (tx (.leaf t)) = (⟨#[40]⟩ ++ (⟨#[116, 114, 117, 101]⟩)) ++ ⟨#[41]⟩) := Lib.hid (by rw [HBK.out _ HT.out, if_pos h8])
      rw [HF.out]
      clear HF HBK HT
      go_enter Tryz.func39, Tryz.ntmps39
      go_wp2_with (go_at_call 65; (with_reducible refine (HLV.out _).mono ?_))
      rintro e w1 ⟨rfl, hb1⟩
      have hk1 := block_on (heap_alloc_new w (.cells #[.int .i64 9, .int .i64 nn, .string ss] 53)) hb1
      have HB1 := Lib.hid (((Below.refl _ _).alloc (Nat.le_refl _) (.cells #[.int .i64 9, .int .i64 nn, .string ss] 53)).trans (hb1.mono (by simp)))
      obtain ⟨p0, p1, p2⟩ := cells_3 hk1
      have HK1 := Lib.hid hk1
      clear hb1 hk1 c0 c1 c2
      go_wp2_with (go_at_call 66; (with_reducible refine (HB.out _ HB1.out).mono ?_))
      rintro e w2 ⟨v, rfl, hr2, hb2⟩
      have HZ := Lib.hid (below_two' HB1.out hb2)
      have hk2 := block_on HK1.out hb2
      have HK2 := Lib.hid hk2
      clear p0 p1 p2 hb2
      obtain ⟨y0, y1, y2⟩ := cells_3 hk2
      clear hk2
      obtain ⟨Ab, nb, cb, rfl, hnb, -, -⟩ := hr2.ints
      obtain rfl : 0 = nb := hnb
      clear hr2
      go_wp2_with fail
      go_ret
      exact ⟨rfl, HZ.out⟩
    · have HF : Hid (bk (lev (.leaf t) < k) (tx (.leaf t)) = ⟨#[116, 114, 117, 101]⟩) := Lib.hid (by rw [HBK.out _ HT.out, if_neg h8])
      rw [HF.out]
      clear HF HBK HT
      go_enter Tryz.func39, Tryz.ntmps39
      go_wp2_with (go_at_call 65; (with_reducible refine (HLV.out _).mono ?_))
      rintro e w1 ⟨rfl, hb1⟩
      have hk1 := block_on (heap_alloc_new w (.cells #[.int .i64 9, .int .i64 nn, .string ss] 53)) hb1
      have HB1 := Lib.hid (((Below.refl _ _).alloc (Nat.le_refl _) (.cells #[.int .i64 9, .int .i64 nn, .string ss] 53)).trans (hb1.mono (by simp)))
      obtain ⟨p0, p1, p2⟩ := cells_3 hk1
      have HK1 := Lib.hid hk1
      clear hb1 hk1 c0 c1 c2
      go_wp2_with (go_at_call 66; (with_reducible refine (HB.out _ HB1.out).mono ?_))
      rintro e w2 ⟨v, rfl, hr2, hb2⟩
      have HZ := Lib.hid (below_two' HB1.out hb2)
      have hk2 := block_on HK1.out hb2
      have HK2 := Lib.hid hk2
      clear p0 p1 p2 hb2
      obtain ⟨y0, y1, y2⟩ := cells_3 hk2
      clear hk2
      obtain ⟨Ab, nb, cb, rfl, hnb, -, -⟩ := hr2.ints
      obtain rfl : 0 = nb := hnb
      clear hr2
      go_wp2_with fail
      go_ret
      exact ⟨rfl, HZ.out⟩
  by_cases h10 : t.op = 10
  · have HT : Hid (tx (.leaf t) = ⟨#[102, 97, 108, 115, 101]⟩) := Lib.hid (by unfold tx; rw [if_neg (by omega)]; rw [if_neg (by omega)]; rw [if_neg (by omega)]; rw [if_pos h10])
    rw [h10] at c0 HLV
    obtain ⟨nn, hnn⟩ : ∃ nn, nn = t.n := ⟨_, rfl⟩
    obtain ⟨ss, hss⟩ : ∃ ss, ss = t.s := ⟨_, rfl⟩
    rw [← hnn] at c1
    rw [← hss] at c2
    clear hnn
    clear hm hss h1
    clear h2
    clear h9
    clear h10
    by_cases h8 : 8 < k
    · have HF : Hid (bk (lev (.leaf t) < k) (tx (.leaf t)) = (⟨#[40]⟩ ++ (⟨#[102, 97, 108, 115, 101]⟩)) ++ ⟨#[41]⟩) := Lib.hid (by rw [HBK.out _ HT.out, if_pos h8])
      rw [HF.out]
      clear HF HBK HT
      go_enter Tryz.func39, Tryz.ntmps39
      go_wp2_with (go_at_call 65; (with_reducible refine (HLV.out _).mono ?_))
      rintro e w1 ⟨rfl, hb1⟩
      have hk1 := block_on (heap_alloc_new w (.cells #[.int .i64 10, .int .i64 nn, .string ss] 53)) hb1
      have HB1 := Lib.hid (((Below.refl _ _).alloc (Nat.le_refl _) (.cells #[.int .i64 10, .int .i64 nn, .string ss] 53)).trans (hb1.mono (by simp)))
      obtain ⟨p0, p1, p2⟩ := cells_3 hk1
      have HK1 := Lib.hid hk1
      clear hb1 hk1 c0 c1 c2
      go_wp2_with (go_at_call 66; (with_reducible refine (HB.out _ HB1.out).mono ?_))
      rintro e w2 ⟨v, rfl, hr2, hb2⟩
      have HZ := Lib.hid (below_two' HB1.out hb2)
      have hk2 := block_on HK1.out hb2
      have HK2 := Lib.hid hk2
      clear p0 p1 p2 hb2
      obtain ⟨y0, y1, y2⟩ := cells_3 hk2
      clear hk2
      obtain ⟨Ab, nb, cb, rfl, hnb, -, -⟩ := hr2.ints
      obtain rfl : 0 = nb := hnb
      clear hr2
      go_wp2_with fail
      go_ret
      exact ⟨rfl, HZ.out⟩
    · have HF : Hid (bk (lev (.leaf t) < k) (tx (.leaf t)) = ⟨#[102, 97, 108, 115, 101]⟩) := Lib.hid (by rw [HBK.out _ HT.out, if_neg h8])
      rw [HF.out]
      clear HF HBK HT
      go_enter Tryz.func39, Tryz.ntmps39
      go_wp2_with (go_at_call 65; (with_reducible refine (HLV.out _).mono ?_))
      rintro e w1 ⟨rfl, hb1⟩
      have hk1 := block_on (heap_alloc_new w (.cells #[.int .i64 10, .int .i64 nn, .string ss] 53)) hb1
      have HB1 := Lib.hid (((Below.refl _ _).alloc (Nat.le_refl _) (.cells #[.int .i64 10, .int .i64 nn, .string ss] 53)).trans (hb1.mono (by simp)))
      obtain ⟨p0, p1, p2⟩ := cells_3 hk1
      have HK1 := Lib.hid hk1
      clear hb1 hk1 c0 c1 c2
      go_wp2_with (go_at_call 66; (with_reducible refine (HB.out _ HB1.out).mono ?_))
      rintro e w2 ⟨v, rfl, hr2, hb2⟩
      have HZ := Lib.hid (below_two' HB1.out hb2)
      have hk2 := block_on HK1.out hb2
      have HK2 := Lib.hid hk2
      clear p0 p1 p2 hb2
      obtain ⟨y0, y1, y2⟩ := cells_3 hk2
      clear hk2
      obtain ⟨Ab, nb, cb, rfl, hnb, -, -⟩ := hr2.ints
      obtain rfl : 0 = nb := hnb
      clear hr2
      go_wp2_with fail
      go_ret
      exact ⟨rfl, HZ.out⟩
  · have h11 : t.op = 11 := by omega
    have hz := name_size (ExprSpec.may_name (.inr h11) hm).1
    have HT : Hid (tx (.leaf t) = (⟨#[105, 110, 40]⟩ ++ t.s) ++ ⟨#[41]⟩) := Lib.hid (by unfold tx; rw [if_neg (by omega)]; rw [if_neg (by omega)]; rw [if_neg (by omega)]; rw [if_neg (by omega)]; skip)
    rw [h11] at c0 HLV
    obtain ⟨nn, hnn⟩ : ∃ nn, nn = t.n := ⟨_, rfl⟩
    obtain ⟨ss, hss⟩ : ∃ ss, ss = t.s := ⟨_, rfl⟩
    rw [← hnn] at c1
    rw [← hss] at c2
    rw [← hss] at HT hz
    clear hnn
    clear hm hss h1
    clear h2
    clear h9
    clear h10
    clear h11
    by_cases h8 : 8 < k
    · have HF : Hid (bk (lev (.leaf t) < k) (tx (.leaf t)) = (⟨#[40]⟩ ++ ((⟨#[105, 110, 40]⟩ ++ ss) ++ ⟨#[41]⟩)) ++ ⟨#[41]⟩) := Lib.hid (by rw [HBK.out _ HT.out, if_pos h8])
      rw [HF.out]
      clear HF HBK HT
      go_enter Tryz.func39, Tryz.ntmps39
      go_wp2_with (go_at_call 65; (with_reducible refine (HLV.out _).mono ?_))
      rintro e w1 ⟨rfl, hb1⟩
      have hk1 := block_on (heap_alloc_new w (.cells #[.int .i64 11, .int .i64 nn, .string ss] 53)) hb1
      have HB1 := Lib.hid (((Below.refl _ _).alloc (Nat.le_refl _) (.cells #[.int .i64 11, .int .i64 nn, .string ss] 53)).trans (hb1.mono (by simp)))
      obtain ⟨p0, p1, p2⟩ := cells_3 hk1
      have HK1 := Lib.hid hk1
      clear hb1 hk1 c0 c1 c2
      go_wp2_with (go_at_call 66; (with_reducible refine (HB.out _ HB1.out).mono ?_))
      rintro e w2 ⟨v, rfl, hr2, hb2⟩
      have HZ := Lib.hid (below_two' HB1.out hb2)
      have hk2 := block_on HK1.out hb2
      have HK2 := Lib.hid hk2
      clear p0 p1 p2 hb2
      obtain ⟨y0, y1, y2⟩ := cells_3 hk2
      clear hk2
      obtain ⟨Ab, nb, cb, rfl, hnb, -, -⟩ := hr2.ints
      obtain rfl : 0 = nb := hnb
      clear hr2
      go_wp2_with fail
      go_ret
      exact ⟨rfl, HZ.out⟩
    · have HF : Hid (bk (lev (.leaf t) < k) (tx (.leaf t)) = (⟨#[105, 110, 40]⟩ ++ ss) ++ ⟨#[41]⟩) := Lib.hid (by rw [HBK.out _ HT.out, if_neg h8])
      rw [HF.out]
      clear HF HBK HT
      go_enter Tryz.func39, Tryz.ntmps39
      go_wp2_with (go_at_call 65; (with_reducible refine (HLV.out _).mono ?_))
      rintro e w1 ⟨rfl, hb1⟩
      have hk1 := block_on (heap_alloc_new w (.cells #[.int .i64 11, .int .i64 nn, .string ss] 53)) hb1
      have HB1 := Lib.hid (((Below.refl _ _).alloc (Nat.le_refl _) (.cells #[.int .i64 11, .int .i64 nn, .string ss] 53)).trans (hb1.mono (by simp)))
      obtain ⟨p0, p1, p2⟩ := cells_3 hk1
      have HK1 := Lib.hid hk1
      clear hb1 hk1 c0 c1 c2
      go_wp2_with (go_at_call 66; (with_reducible refine (HB.out _ HB1.out).mono ?_))
      rintro e w2 ⟨v, rfl, hr2, hb2⟩
      have HZ := Lib.hid (below_two' HB1.out hb2)
      have hk2 := block_on HK1.out hb2
      have HK2 := Lib.hid hk2
      clear p0 p1 p2 hb2
      obtain ⟨y0, y1, y2⟩ := cells_3 hk2
      clear hk2
      obtain ⟨Ab, nb, cb, rfl, hnb, -, -⟩ := hr2.ints
      obtain rfl : 0 = nb := hnb
      clear hr2
      go_wp2_with fail
      go_ret
      exact ⟨rfl, HZ.out⟩

set_option maxHeartbeats 4000000 in
theorem rput_neg {x : Ex} (hg : ExprSpec.Good (.un 3 x)) (ih : RPutOk x) : RPutOk (.un 3 x) := by
  intro A n c l a rest k w h hd
  have hsz : (bk (lev x < 7) (tx x)).size ≤ 60000 := by
    have h1 := tx_size hg.2
    have h2 := congrArg List.length hd
    have h3 := h.few
    have h4 := h.len
    have h5 := bk_size (lev x < 7) (tx x)
    rw [show flat (.un 3 x) = opT 3 :: flat x from rfl, List.length_drop, List.length_append, List.length_cons] at h2
    omega
  obtain ⟨b, off, t', rfl, hb, hop, hal, hfew, ⟨r, hr⟩, c0, c1, c2, hbl, hlv⟩ := rx_first h hd hg
  rw [show opE (.un 3 x) = 3 from rfl] at hop
  have hal' : (a : Int) < n := by omega
  have ha0 : (0 : Int) ≤ (a : Int) := by omega
  have hd1 : l.drop (a + 1) = flat x ++ rest := drop_one (t := opT 3) hd
  have hbl' : ∀ w', Below w.heap.size w w' → Calls Tryz.prog 66 #[.slice (some ⟨b, off, none⟩) n c, .int .i64 a] w' (RetInts w' [((a + 1 : Nat) : Int)]) := by
    intro w' hw
    have := hbl w' hw
    rwa [show arN (opE (.un 3 x)) = 1 from rfl, belows_1] at this
  have HB := Lib.hid hbl'
  have HI := Lib.hid (fun W hW => ih (some ⟨b, off, none⟩) n c l (a + 1) rest 7 W (h.on hW) hd1)
  rw [hop] at c0 hlv
  have HLV : Hid (∀ w', Calls Tryz.prog 65 #[.int .i64 3] w' (RetI w' 7)) := Lib.hid hlv
  have HBK : Hid (∀ X, tx (.un 3 x) = X → bk (lev (.un 3 x) < k) (tx (.un 3 x)) = if 7 < k then (⟨#[40]⟩ ++ X) ++ ⟨#[41]⟩ else X) := Lib.hid (fun X hX => by subst hX; rfl)
  have HT : Hid (tx (.un 3 x) = ⟨#[45]⟩ ++ bk (lev x < 7) (tx x)) := Lib.hid rfl
  obtain ⟨p, hp⟩ : ∃ p : Nat, p = a + 1 := ⟨_, rfl⟩
  rw [← hp] at HB HI
  obtain ⟨sx, hsx⟩ : ∃ sx, sx = bk (lev x < 7) (tx x) := ⟨_, rfl⟩
  rw [← hsx] at HI HT hsz
  obtain ⟨nn, hnn⟩ : ∃ nn, nn = t'.n := ⟨_, rfl⟩
  obtain ⟨ss, hss⟩ : ∃ ss, ss = t'.s := ⟨_, rfl⟩
  rw [← hnn] at c1
  rw [← hss] at c2
  clear h hd hop hr hbl hbl' hlv hg ih hd1 hp hsx hnn hss
  by_cases h8 : 7 < k
  · have HF : Hid (bk (lev (.un 3 x) < k) (tx (.un 3 x)) = (⟨#[40]⟩ ++ (⟨#[45]⟩ ++ sx)) ++ ⟨#[41]⟩) := Lib.hid (by rw [HBK.out _ HT.out, if_pos h8])
    rw [HF.out]
    clear HF HBK HT
    go_enter Tryz.func39, Tryz.ntmps39
    go_wp2_with (go_at_call 65; (with_reducible refine (HLV.out _).mono ?_))
    rintro e w1 ⟨rfl, hb1⟩
    have hk1 := block_on (heap_alloc_new w (.cells #[.int .i64 3, .int .i64 nn, .string ss] 53)) hb1
    have HB1 := Lib.hid (((Below.refl _ _).alloc (Nat.le_refl _) (.cells #[.int .i64 3, .int .i64 nn, .string ss] 53)).trans (hb1.mono (by simp)))
    obtain ⟨p0, p1, p2⟩ := cells_3 hk1
    have HK1 := Lib.hid hk1
    clear hb1 hk1 c0 c1 c2
    go_wp2_with (go_at_call 66; (with_reducible refine (HB.out _ HB1.out).mono ?_))
    rintro e w2 ⟨v, rfl, hr2, hb2⟩
    have HZ := Lib.hid (below_two' HB1.out hb2)
    have hk2 := block_on HK1.out hb2
    have HK2 := Lib.hid hk2
    clear p0 p1 p2 hb2
    obtain ⟨y0, y1, y2⟩ := cells_3 hk2
    clear hk2
    obtain ⟨bR, oR, cR, rfl, hbR, r0⟩ := row_1 hr2
    clear hr2
    go_wp2_with (go_at_call 39; (with_reducible refine (HI.out _ HZ.out).mono ?_))
    rintro e w3 ⟨rfl, hb3⟩
    have HZ2 := Lib.hid (below_two' HZ.out hb3)
    clear hb3 y0 y1 y2 r0
    go_wp2_with fail
    go_ret
    exact ⟨rfl, HZ2.out⟩
  · have HF : Hid (bk (lev (.un 3 x) < k) (tx (.un 3 x)) = ⟨#[45]⟩ ++ sx) := Lib.hid (by rw [HBK.out _ HT.out, if_neg h8])
    rw [HF.out]
    clear HF HBK HT
    go_enter Tryz.func39, Tryz.ntmps39
    go_wp2_with (go_at_call 65; (with_reducible refine (HLV.out _).mono ?_))
    rintro e w1 ⟨rfl, hb1⟩
    have hk1 := block_on (heap_alloc_new w (.cells #[.int .i64 3, .int .i64 nn, .string ss] 53)) hb1
    have HB1 := Lib.hid (((Below.refl _ _).alloc (Nat.le_refl _) (.cells #[.int .i64 3, .int .i64 nn, .string ss] 53)).trans (hb1.mono (by simp)))
    obtain ⟨p0, p1, p2⟩ := cells_3 hk1
    have HK1 := Lib.hid hk1
    clear hb1 hk1 c0 c1 c2
    go_wp2_with (go_at_call 66; (with_reducible refine (HB.out _ HB1.out).mono ?_))
    rintro e w2 ⟨v, rfl, hr2, hb2⟩
    have HZ := Lib.hid (below_two' HB1.out hb2)
    have hk2 := block_on HK1.out hb2
    have HK2 := Lib.hid hk2
    clear p0 p1 p2 hb2
    obtain ⟨y0, y1, y2⟩ := cells_3 hk2
    clear hk2
    obtain ⟨bR, oR, cR, rfl, hbR, r0⟩ := row_1 hr2
    clear hr2
    go_wp2_with (go_at_call 39; (with_reducible refine (HI.out _ HZ.out).mono ?_))
    rintro e w3 ⟨rfl, hb3⟩
    have HZ2 := Lib.hid (below_two' HZ.out hb3)
    clear hb3 y0 y1 y2 r0
    go_wp2_with fail
    go_ret
    exact ⟨rfl, HZ2.out⟩

set_option maxHeartbeats 4000000 in
theorem rput_not {x : Ex} (hg : ExprSpec.Good (.un 12 x)) (ih : RPutOk x) : RPutOk (.un 12 x) := by
  intro A n c l a rest k w h hd
  have hsz : (bk (lev x < 3) (tx x)).size ≤ 60000 := by
    have h1 := tx_size hg.2
    have h2 := congrArg List.length hd
    have h3 := h.few
    have h4 := h.len
    have h5 := bk_size (lev x < 3) (tx x)
    rw [show flat (.un 12 x) = opT 12 :: flat x from rfl, List.length_drop, List.length_append, List.length_cons] at h2
    omega
  obtain ⟨b, off, t', rfl, hb, hop, hal, hfew, ⟨r, hr⟩, c0, c1, c2, hbl, hlv⟩ := rx_first h hd hg
  rw [show opE (.un 12 x) = 12 from rfl] at hop
  have hal' : (a : Int) < n := by omega
  have ha0 : (0 : Int) ≤ (a : Int) := by omega
  have hd1 : l.drop (a + 1) = flat x ++ rest := drop_one (t := opT 12) hd
  have hbl' : ∀ w', Below w.heap.size w w' → Calls Tryz.prog 66 #[.slice (some ⟨b, off, none⟩) n c, .int .i64 a] w' (RetInts w' [((a + 1 : Nat) : Int)]) := by
    intro w' hw
    have := hbl w' hw
    rwa [show arN (opE (.un 12 x)) = 1 from rfl, belows_1] at this
  have HB := Lib.hid hbl'
  have HI := Lib.hid (fun W hW => ih (some ⟨b, off, none⟩) n c l (a + 1) rest 3 W (h.on hW) hd1)
  rw [hop] at c0 hlv
  have HLV : Hid (∀ w', Calls Tryz.prog 65 #[.int .i64 12] w' (RetI w' 3)) := Lib.hid hlv
  have HBK : Hid (∀ X, tx (.un 12 x) = X → bk (lev (.un 12 x) < k) (tx (.un 12 x)) = if 3 < k then (⟨#[40]⟩ ++ X) ++ ⟨#[41]⟩ else X) := Lib.hid (fun X hX => by subst hX; rfl)
  have HT : Hid (tx (.un 12 x) = ⟨#[110, 111, 116, 32]⟩ ++ bk (lev x < 3) (tx x)) := Lib.hid rfl
  obtain ⟨p, hp⟩ : ∃ p : Nat, p = a + 1 := ⟨_, rfl⟩
  rw [← hp] at HB HI
  obtain ⟨sx, hsx⟩ : ∃ sx, sx = bk (lev x < 3) (tx x) := ⟨_, rfl⟩
  rw [← hsx] at HI HT hsz
  obtain ⟨nn, hnn⟩ : ∃ nn, nn = t'.n := ⟨_, rfl⟩
  obtain ⟨ss, hss⟩ : ∃ ss, ss = t'.s := ⟨_, rfl⟩
  rw [← hnn] at c1
  rw [← hss] at c2
  clear h hd hop hr hbl hbl' hlv hg ih hd1 hp hsx hnn hss
  by_cases h8 : 3 < k
  · have HF : Hid (bk (lev (.un 12 x) < k) (tx (.un 12 x)) = (⟨#[40]⟩ ++ (⟨#[110, 111, 116, 32]⟩ ++ sx)) ++ ⟨#[41]⟩) := Lib.hid (by rw [HBK.out _ HT.out, if_pos h8])
    rw [HF.out]
    clear HF HBK HT
    go_enter Tryz.func39, Tryz.ntmps39
    go_wp2_with (go_at_call 65; (with_reducible refine (HLV.out _).mono ?_))
    rintro e w1 ⟨rfl, hb1⟩
    have hk1 := block_on (heap_alloc_new w (.cells #[.int .i64 12, .int .i64 nn, .string ss] 53)) hb1
    have HB1 := Lib.hid (((Below.refl _ _).alloc (Nat.le_refl _) (.cells #[.int .i64 12, .int .i64 nn, .string ss] 53)).trans (hb1.mono (by simp)))
    obtain ⟨p0, p1, p2⟩ := cells_3 hk1
    have HK1 := Lib.hid hk1
    clear hb1 hk1 c0 c1 c2
    go_wp2_with (go_at_call 66; (with_reducible refine (HB.out _ HB1.out).mono ?_))
    rintro e w2 ⟨v, rfl, hr2, hb2⟩
    have HZ := Lib.hid (below_two' HB1.out hb2)
    have hk2 := block_on HK1.out hb2
    have HK2 := Lib.hid hk2
    clear p0 p1 p2 hb2
    obtain ⟨y0, y1, y2⟩ := cells_3 hk2
    clear hk2
    obtain ⟨bR, oR, cR, rfl, hbR, r0⟩ := row_1 hr2
    clear hr2
    go_wp2_with (go_at_call 39; (with_reducible refine (HI.out _ HZ.out).mono ?_))
    rintro e w3 ⟨rfl, hb3⟩
    have HZ2 := Lib.hid (below_two' HZ.out hb3)
    clear hb3 y0 y1 y2 r0
    go_wp2_with fail
    go_ret
    exact ⟨rfl, HZ2.out⟩
  · have HF : Hid (bk (lev (.un 12 x) < k) (tx (.un 12 x)) = ⟨#[110, 111, 116, 32]⟩ ++ sx) := Lib.hid (by rw [HBK.out _ HT.out, if_neg h8])
    rw [HF.out]
    clear HF HBK HT
    go_enter Tryz.func39, Tryz.ntmps39
    go_wp2_with (go_at_call 65; (with_reducible refine (HLV.out _).mono ?_))
    rintro e w1 ⟨rfl, hb1⟩
    have hk1 := block_on (heap_alloc_new w (.cells #[.int .i64 12, .int .i64 nn, .string ss] 53)) hb1
    have HB1 := Lib.hid (((Below.refl _ _).alloc (Nat.le_refl _) (.cells #[.int .i64 12, .int .i64 nn, .string ss] 53)).trans (hb1.mono (by simp)))
    obtain ⟨p0, p1, p2⟩ := cells_3 hk1
    have HK1 := Lib.hid hk1
    clear hb1 hk1 c0 c1 c2
    go_wp2_with (go_at_call 66; (with_reducible refine (HB.out _ HB1.out).mono ?_))
    rintro e w2 ⟨v, rfl, hr2, hb2⟩
    have HZ := Lib.hid (below_two' HB1.out hb2)
    have hk2 := block_on HK1.out hb2
    have HK2 := Lib.hid hk2
    clear p0 p1 p2 hb2
    obtain ⟨y0, y1, y2⟩ := cells_3 hk2
    clear hk2
    obtain ⟨bR, oR, cR, rfl, hbR, r0⟩ := row_1 hr2
    clear hr2
    go_wp2_with (go_at_call 39; (with_reducible refine (HI.out _ HZ.out).mono ?_))
    rintro e w3 ⟨rfl, hb3⟩
    have HZ2 := Lib.hid (below_two' HZ.out hb3)
    clear hb3 y0 y1 y2 r0
    go_wp2_with fail
    go_ret
    exact ⟨rfl, HZ2.out⟩

set_option maxHeartbeats 4000000 in
theorem rput_min {x y : Ex} (hg : ExprSpec.Good (.bin 7 x y)) (ihx : RPutOk x) (ihy : RPutOk y) : RPutOk (.bin 7 x y) := by
  intro A n c l a rest k w h hd
  have hsz : (tx x).size ≤ 60000 ∧ (tx y).size ≤ 60000 := by
    have h1 := tx_size hg.2.1
    have h1' := tx_size hg.2.2
    have h2 := congrArg List.length hd
    have h3 := h.few
    have h4 := h.len
    rw [show flat (.bin 7 x y) = opT 7 :: (flat x ++ flat y) from rfl, List.length_drop, List.length_append, List.length_cons, List.length_append] at h2
    omega
  obtain ⟨hsz1, hsz2⟩ := hsz
  obtain ⟨b, off, t', rfl, hb, hop, hal, hfew, ⟨r, hr⟩, c0, c1, c2, hbl, hlv⟩ := rx_first h hd hg
  rw [show opE (.bin 7 x y) = 7 from rfl] at hop
  have hal' : (a : Int) < n := by omega
  have ha0 : (0 : Int) ≤ (a : Int) := by omega
  have hd1 : l.drop (a + 1) = flat x ++ (flat y ++ rest) := by
    rw [← List.append_assoc]; exact drop_one (t := opT 7) hd
  have hd2 : l.drop (a + 1 + (flat x).length) = flat y ++ rest := by
    rw [← List.drop_drop, hd1, List.drop_left]
  have hbl' : ∀ w', Below w.heap.size w w' → Calls Tryz.prog 66 #[.slice (some ⟨b, off, none⟩) n c, .int .i64 a] w' (RetInts w' [((a + 1 : Nat) : Int), ((a + 1 + (flat x).length : Nat) : Int)]) := by
    intro w' hw
    have := hbl w' hw
    rwa [show arN (opE (.bin 7 x y)) = 2 from rfl, belows_2 (by rw [hd1]; exact cnt_more _ (flat_wf hg.2.1).1)] at this
  have HB := Lib.hid hbl'
  have HI := Lib.hid (fun W hW => ihx (some ⟨b, off, none⟩) n c l (a + 1) (flat y ++ rest) 1 W (h.on hW) hd1)
  have HJ := Lib.hid (fun W hW => ihy (some ⟨b, off, none⟩) n c l (a + 1 + (flat x).length) rest 1 W (h.on hW) hd2)
  rw [show bk (lev x < 1) (tx x) = tx x from if_neg (by have := (lev_pos hg.2.1).1; omega)] at HI
  rw [show bk (lev y < 1) (tx y) = tx y from if_neg (by have := (lev_pos hg.2.2).1; omega)] at HJ
  rw [hop] at c0 hlv
  have HLV : Hid (∀ w', Calls Tryz.prog 65 #[.int .i64 7] w' (RetI w' 8)) := Lib.hid hlv
  have HBK : Hid (∀ X, tx (.bin 7 x y) = X → bk (lev (.bin 7 x y) < k) (tx (.bin 7 x y)) = if 8 < k then (⟨#[40]⟩ ++ X) ++ ⟨#[41]⟩ else X) := Lib.hid (fun X hX => by subst hX; rfl)
  have HT : Hid (tx (.bin 7 x y) = (((⟨#[109, 105, 110, 40]⟩ ++ tx x) ++ ⟨#[44, 32]⟩) ++ tx y) ++ ⟨#[41]⟩) := Lib.hid rfl
  obtain ⟨p, hp⟩ : ∃ p : Nat, p = a + 1 := ⟨_, rfl⟩
  obtain ⟨q, hq⟩ : ∃ q : Nat, q = a + 1 + (flat x).length := ⟨_, rfl⟩
  rw [← hq] at HB HJ
  rw [← hp] at HB HI
  obtain ⟨sx, hsx⟩ : ∃ sx, sx = tx x := ⟨_, rfl⟩
  obtain ⟨sy, hsy⟩ : ∃ sy, sy = tx y := ⟨_, rfl⟩
  rw [← hsx] at HI HT hsz1
  rw [← hsy] at HJ HT hsz2
  obtain ⟨nn, hnn⟩ : ∃ nn, nn = t'.n := ⟨_, rfl⟩
  obtain ⟨ss, hss⟩ : ∃ ss, ss = t'.s := ⟨_, rfl⟩
  rw [← hnn] at c1
  rw [← hss] at c2
  clear h hd hop hr hbl hbl' hlv hg ihx ihy hd1 hd2 hp hq hsx hsy hnn hss
  by_cases h8 : 8 < k
  · have HF : Hid (bk (lev (.bin 7 x y) < k) (tx (.bin 7 x y)) = (⟨#[40]⟩ ++ ((((⟨#[109, 105, 110, 40]⟩ ++ sx) ++ ⟨#[44, 32]⟩) ++ sy) ++ ⟨#[41]⟩)) ++ ⟨#[41]⟩) := Lib.hid (by rw [HBK.out _ HT.out, if_pos h8])
    rw [HF.out]
    clear HF HBK HT
    go_enter Tryz.func39, Tryz.ntmps39
    go_wp2_with (go_at_call 65; (with_reducible refine (HLV.out _).mono ?_))
    rintro e w1 ⟨rfl, hb1⟩
    have hk1 := block_on (heap_alloc_new w (.cells #[.int .i64 7, .int .i64 nn, .string ss] 53)) hb1
    have HB1 := Lib.hid (((Below.refl _ _).alloc (Nat.le_refl _) (.cells #[.int .i64 7, .int .i64 nn, .string ss] 53)).trans (hb1.mono (by simp)))
    obtain ⟨p0, p1, p2⟩ := cells_3 hk1
    have HK1 := Lib.hid hk1
    clear hb1 hk1 c0 c1 c2
    go_wp2_with (go_at_call 66; (with_reducible refine (HB.out _ HB1.out).mono ?_))
    rintro e w2 ⟨v, rfl, hr2, hb2⟩
    have HZ := Lib.hid (below_two' HB1.out hb2)
    have hk2 := block_on HK1.out hb2
    have HK2 := Lib.hid hk2
    clear p0 p1 p2 hb2
    obtain ⟨y0, y1, y2⟩ := cells_3 hk2
    clear hk2
    obtain ⟨bR, oR, cR, rfl, hbR, r0, r1⟩ := row_2 hr2
    clear hr2
    go_wp2_with fail
    have z0 : ¬ 9223372036854775807 < 4 + sx.size := by omega
    have z1 : ¬ 9223372036854775807 < 4 + sx.size + 2 := by omega
    have z2 : ¬ 9223372036854775807 < 4 + sx.size + 2 + sy.size := by omega
    have z3 : ¬ 9223372036854775807 < 4 + sx.size + 2 + sy.size + 1 := by omega
    go_region_held3 (fun w' => w'.cell? ⟨bR, oR, none⟩ = some (.int .i64 p) ∧ w'.cell? ⟨bR, oR + 1, none⟩ = some (.int .i64 q)) (go_keep)
      ((first
        | (go_at_call 39; (with_reducible refine (HI.out _ HZ.out.drew).mono ?_); rintro e w3 ⟨rfl, hb3'⟩; have hb3 := undrew hb3'; have HZ3 := Lib.hid (below_two' HZ.out hb3); have e0 := (hb3.cell (p := ⟨bR, oR, none⟩) hbR).trans r0; have e1 := (hb3.cell (p := ⟨bR, oR + 1, none⟩) hbR).trans r1; have hbR3 := Nat.lt_of_lt_of_le hbR hb3.size; clear hb3 hb3')
        | (go_at_call 39; (with_reducible refine (HJ.out _ HZ3.out).mono ?_); rintro e w4 ⟨rfl, hb4⟩; have HZ4 := Lib.hid (below_two' HZ3.out hb4); have u0 := (hb4.cell (p := ⟨bR, oR, none⟩) hbR3).trans e0; have u1 := (hb4.cell (p := ⟨bR, oR + 1, none⟩) hbR3).trans e1; clear hb4)))
    all_goals
      go_wp2_with fail
      go_ret
      exact ⟨rfl, HZ4.out⟩
  · have HF : Hid (bk (lev (.bin 7 x y) < k) (tx (.bin 7 x y)) = (((⟨#[109, 105, 110, 40]⟩ ++ sx) ++ ⟨#[44, 32]⟩) ++ sy) ++ ⟨#[41]⟩) := Lib.hid (by rw [HBK.out _ HT.out, if_neg h8])
    rw [HF.out]
    clear HF HBK HT
    go_enter Tryz.func39, Tryz.ntmps39
    go_wp2_with (go_at_call 65; (with_reducible refine (HLV.out _).mono ?_))
    rintro e w1 ⟨rfl, hb1⟩
    have hk1 := block_on (heap_alloc_new w (.cells #[.int .i64 7, .int .i64 nn, .string ss] 53)) hb1
    have HB1 := Lib.hid (((Below.refl _ _).alloc (Nat.le_refl _) (.cells #[.int .i64 7, .int .i64 nn, .string ss] 53)).trans (hb1.mono (by simp)))
    obtain ⟨p0, p1, p2⟩ := cells_3 hk1
    have HK1 := Lib.hid hk1
    clear hb1 hk1 c0 c1 c2
    go_wp2_with (go_at_call 66; (with_reducible refine (HB.out _ HB1.out).mono ?_))
    rintro e w2 ⟨v, rfl, hr2, hb2⟩
    have HZ := Lib.hid (below_two' HB1.out hb2)
    have hk2 := block_on HK1.out hb2
    have HK2 := Lib.hid hk2
    clear p0 p1 p2 hb2
    obtain ⟨y0, y1, y2⟩ := cells_3 hk2
    clear hk2
    obtain ⟨bR, oR, cR, rfl, hbR, r0, r1⟩ := row_2 hr2
    clear hr2
    go_wp2_with fail
    have z0 : ¬ 9223372036854775807 < 4 + sx.size := by omega
    have z1 : ¬ 9223372036854775807 < 4 + sx.size + 2 := by omega
    have z2 : ¬ 9223372036854775807 < 4 + sx.size + 2 + sy.size := by omega
    have z3 : ¬ 9223372036854775807 < 4 + sx.size + 2 + sy.size + 1 := by omega
    go_region_held3 (fun w' => w'.cell? ⟨bR, oR, none⟩ = some (.int .i64 p) ∧ w'.cell? ⟨bR, oR + 1, none⟩ = some (.int .i64 q)) (go_keep)
      ((first
        | (go_at_call 39; (with_reducible refine (HI.out _ HZ.out.drew).mono ?_); rintro e w3 ⟨rfl, hb3'⟩; have hb3 := undrew hb3'; have HZ3 := Lib.hid (below_two' HZ.out hb3); have e0 := (hb3.cell (p := ⟨bR, oR, none⟩) hbR).trans r0; have e1 := (hb3.cell (p := ⟨bR, oR + 1, none⟩) hbR).trans r1; have hbR3 := Nat.lt_of_lt_of_le hbR hb3.size; clear hb3 hb3')
        | (go_at_call 39; (with_reducible refine (HJ.out _ HZ3.out).mono ?_); rintro e w4 ⟨rfl, hb4⟩; have HZ4 := Lib.hid (below_two' HZ3.out hb4); have u0 := (hb4.cell (p := ⟨bR, oR, none⟩) hbR3).trans e0; have u1 := (hb4.cell (p := ⟨bR, oR + 1, none⟩) hbR3).trans e1; clear hb4)))
    all_goals
      go_wp2_with fail
      go_ret
      exact ⟨rfl, HZ4.out⟩

set_option maxHeartbeats 4000000 in
theorem rput_max {x y : Ex} (hg : ExprSpec.Good (.bin 8 x y)) (ihx : RPutOk x) (ihy : RPutOk y) : RPutOk (.bin 8 x y) := by
  intro A n c l a rest k w h hd
  have hsz : (tx x).size ≤ 60000 ∧ (tx y).size ≤ 60000 := by
    have h1 := tx_size hg.2.1
    have h1' := tx_size hg.2.2
    have h2 := congrArg List.length hd
    have h3 := h.few
    have h4 := h.len
    rw [show flat (.bin 8 x y) = opT 8 :: (flat x ++ flat y) from rfl, List.length_drop, List.length_append, List.length_cons, List.length_append] at h2
    omega
  obtain ⟨hsz1, hsz2⟩ := hsz
  obtain ⟨b, off, t', rfl, hb, hop, hal, hfew, ⟨r, hr⟩, c0, c1, c2, hbl, hlv⟩ := rx_first h hd hg
  rw [show opE (.bin 8 x y) = 8 from rfl] at hop
  have hal' : (a : Int) < n := by omega
  have ha0 : (0 : Int) ≤ (a : Int) := by omega
  have hd1 : l.drop (a + 1) = flat x ++ (flat y ++ rest) := by
    rw [← List.append_assoc]; exact drop_one (t := opT 8) hd
  have hd2 : l.drop (a + 1 + (flat x).length) = flat y ++ rest := by
    rw [← List.drop_drop, hd1, List.drop_left]
  have hbl' : ∀ w', Below w.heap.size w w' → Calls Tryz.prog 66 #[.slice (some ⟨b, off, none⟩) n c, .int .i64 a] w' (RetInts w' [((a + 1 : Nat) : Int), ((a + 1 + (flat x).length : Nat) : Int)]) := by
    intro w' hw
    have := hbl w' hw
    rwa [show arN (opE (.bin 8 x y)) = 2 from rfl, belows_2 (by rw [hd1]; exact cnt_more _ (flat_wf hg.2.1).1)] at this
  have HB := Lib.hid hbl'
  have HI := Lib.hid (fun W hW => ihx (some ⟨b, off, none⟩) n c l (a + 1) (flat y ++ rest) 1 W (h.on hW) hd1)
  have HJ := Lib.hid (fun W hW => ihy (some ⟨b, off, none⟩) n c l (a + 1 + (flat x).length) rest 1 W (h.on hW) hd2)
  rw [show bk (lev x < 1) (tx x) = tx x from if_neg (by have := (lev_pos hg.2.1).1; omega)] at HI
  rw [show bk (lev y < 1) (tx y) = tx y from if_neg (by have := (lev_pos hg.2.2).1; omega)] at HJ
  rw [hop] at c0 hlv
  have HLV : Hid (∀ w', Calls Tryz.prog 65 #[.int .i64 8] w' (RetI w' 8)) := Lib.hid hlv
  have HBK : Hid (∀ X, tx (.bin 8 x y) = X → bk (lev (.bin 8 x y) < k) (tx (.bin 8 x y)) = if 8 < k then (⟨#[40]⟩ ++ X) ++ ⟨#[41]⟩ else X) := Lib.hid (fun X hX => by subst hX; rfl)
  have HT : Hid (tx (.bin 8 x y) = (((⟨#[109, 97, 120, 40]⟩ ++ tx x) ++ ⟨#[44, 32]⟩) ++ tx y) ++ ⟨#[41]⟩) := Lib.hid rfl
  obtain ⟨p, hp⟩ : ∃ p : Nat, p = a + 1 := ⟨_, rfl⟩
  obtain ⟨q, hq⟩ : ∃ q : Nat, q = a + 1 + (flat x).length := ⟨_, rfl⟩
  rw [← hq] at HB HJ
  rw [← hp] at HB HI
  obtain ⟨sx, hsx⟩ : ∃ sx, sx = tx x := ⟨_, rfl⟩
  obtain ⟨sy, hsy⟩ : ∃ sy, sy = tx y := ⟨_, rfl⟩
  rw [← hsx] at HI HT hsz1
  rw [← hsy] at HJ HT hsz2
  obtain ⟨nn, hnn⟩ : ∃ nn, nn = t'.n := ⟨_, rfl⟩
  obtain ⟨ss, hss⟩ : ∃ ss, ss = t'.s := ⟨_, rfl⟩
  rw [← hnn] at c1
  rw [← hss] at c2
  clear h hd hop hr hbl hbl' hlv hg ihx ihy hd1 hd2 hp hq hsx hsy hnn hss
  by_cases h8 : 8 < k
  · have HF : Hid (bk (lev (.bin 8 x y) < k) (tx (.bin 8 x y)) = (⟨#[40]⟩ ++ ((((⟨#[109, 97, 120, 40]⟩ ++ sx) ++ ⟨#[44, 32]⟩) ++ sy) ++ ⟨#[41]⟩)) ++ ⟨#[41]⟩) := Lib.hid (by rw [HBK.out _ HT.out, if_pos h8])
    rw [HF.out]
    clear HF HBK HT
    go_enter Tryz.func39, Tryz.ntmps39
    go_wp2_with (go_at_call 65; (with_reducible refine (HLV.out _).mono ?_))
    rintro e w1 ⟨rfl, hb1⟩
    have hk1 := block_on (heap_alloc_new w (.cells #[.int .i64 8, .int .i64 nn, .string ss] 53)) hb1
    have HB1 := Lib.hid (((Below.refl _ _).alloc (Nat.le_refl _) (.cells #[.int .i64 8, .int .i64 nn, .string ss] 53)).trans (hb1.mono (by simp)))
    obtain ⟨p0, p1, p2⟩ := cells_3 hk1
    have HK1 := Lib.hid hk1
    clear hb1 hk1 c0 c1 c2
    go_wp2_with (go_at_call 66; (with_reducible refine (HB.out _ HB1.out).mono ?_))
    rintro e w2 ⟨v, rfl, hr2, hb2⟩
    have HZ := Lib.hid (below_two' HB1.out hb2)
    have hk2 := block_on HK1.out hb2
    have HK2 := Lib.hid hk2
    clear p0 p1 p2 hb2
    obtain ⟨y0, y1, y2⟩ := cells_3 hk2
    clear hk2
    obtain ⟨bR, oR, cR, rfl, hbR, r0, r1⟩ := row_2 hr2
    clear hr2
    go_wp2_with fail
    have z0 : ¬ 9223372036854775807 < 4 + sx.size := by omega
    have z1 : ¬ 9223372036854775807 < 4 + sx.size + 2 := by omega
    have z2 : ¬ 9223372036854775807 < 4 + sx.size + 2 + sy.size := by omega
    have z3 : ¬ 9223372036854775807 < 4 + sx.size + 2 + sy.size + 1 := by omega
    go_region_held3 (fun w' => w'.cell? ⟨bR, oR, none⟩ = some (.int .i64 p) ∧ w'.cell? ⟨bR, oR + 1, none⟩ = some (.int .i64 q)) (go_keep)
      ((first
        | (go_at_call 39; (with_reducible refine (HI.out _ HZ.out.drew).mono ?_); rintro e w3 ⟨rfl, hb3'⟩; have hb3 := undrew hb3'; have HZ3 := Lib.hid (below_two' HZ.out hb3); have e0 := (hb3.cell (p := ⟨bR, oR, none⟩) hbR).trans r0; have e1 := (hb3.cell (p := ⟨bR, oR + 1, none⟩) hbR).trans r1; have hbR3 := Nat.lt_of_lt_of_le hbR hb3.size; clear hb3 hb3')
        | (go_at_call 39; (with_reducible refine (HJ.out _ HZ3.out).mono ?_); rintro e w4 ⟨rfl, hb4⟩; have HZ4 := Lib.hid (below_two' HZ3.out hb4); have u0 := (hb4.cell (p := ⟨bR, oR, none⟩) hbR3).trans e0; have u1 := (hb4.cell (p := ⟨bR, oR + 1, none⟩) hbR3).trans e1; clear hb4)))
    all_goals
      go_wp2_with fail
      go_ret
      exact ⟨rfl, HZ4.out⟩
  · have HF : Hid (bk (lev (.bin 8 x y) < k) (tx (.bin 8 x y)) = (((⟨#[109, 97, 120, 40]⟩ ++ sx) ++ ⟨#[44, 32]⟩) ++ sy) ++ ⟨#[41]⟩) := Lib.hid (by rw [HBK.out _ HT.out, if_neg h8])
    rw [HF.out]
    clear HF HBK HT
    go_enter Tryz.func39, Tryz.ntmps39
    go_wp2_with (go_at_call 65; (with_reducible refine (HLV.out _).mono ?_))
    rintro e w1 ⟨rfl, hb1⟩
    have hk1 := block_on (heap_alloc_new w (.cells #[.int .i64 8, .int .i64 nn, .string ss] 53)) hb1
    have HB1 := Lib.hid (((Below.refl _ _).alloc (Nat.le_refl _) (.cells #[.int .i64 8, .int .i64 nn, .string ss] 53)).trans (hb1.mono (by simp)))
    obtain ⟨p0, p1, p2⟩ := cells_3 hk1
    have HK1 := Lib.hid hk1
    clear hb1 hk1 c0 c1 c2
    go_wp2_with (go_at_call 66; (with_reducible refine (HB.out _ HB1.out).mono ?_))
    rintro e w2 ⟨v, rfl, hr2, hb2⟩
    have HZ := Lib.hid (below_two' HB1.out hb2)
    have hk2 := block_on HK1.out hb2
    have HK2 := Lib.hid hk2
    clear p0 p1 p2 hb2
    obtain ⟨y0, y1, y2⟩ := cells_3 hk2
    clear hk2
    obtain ⟨bR, oR, cR, rfl, hbR, r0, r1⟩ := row_2 hr2
    clear hr2
    go_wp2_with fail
    have z0 : ¬ 9223372036854775807 < 4 + sx.size := by omega
    have z1 : ¬ 9223372036854775807 < 4 + sx.size + 2 := by omega
    have z2 : ¬ 9223372036854775807 < 4 + sx.size + 2 + sy.size := by omega
    have z3 : ¬ 9223372036854775807 < 4 + sx.size + 2 + sy.size + 1 := by omega
    go_region_held3 (fun w' => w'.cell? ⟨bR, oR, none⟩ = some (.int .i64 p) ∧ w'.cell? ⟨bR, oR + 1, none⟩ = some (.int .i64 q)) (go_keep)
      ((first
        | (go_at_call 39; (with_reducible refine (HI.out _ HZ.out.drew).mono ?_); rintro e w3 ⟨rfl, hb3'⟩; have hb3 := undrew hb3'; have HZ3 := Lib.hid (below_two' HZ.out hb3); have e0 := (hb3.cell (p := ⟨bR, oR, none⟩) hbR).trans r0; have e1 := (hb3.cell (p := ⟨bR, oR + 1, none⟩) hbR).trans r1; have hbR3 := Nat.lt_of_lt_of_le hbR hb3.size; clear hb3 hb3')
        | (go_at_call 39; (with_reducible refine (HJ.out _ HZ3.out).mono ?_); rintro e w4 ⟨rfl, hb4⟩; have HZ4 := Lib.hid (below_two' HZ3.out hb4); have u0 := (hb4.cell (p := ⟨bR, oR, none⟩) hbR3).trans e0; have u1 := (hb4.cell (p := ⟨bR, oR + 1, none⟩) hbR3).trans e1; clear hb4)))
    all_goals
      go_wp2_with fail
      go_ret
      exact ⟨rfl, HZ4.out⟩
end Go.Proofs.YtobpcpfomdblgaaGreatDoor
