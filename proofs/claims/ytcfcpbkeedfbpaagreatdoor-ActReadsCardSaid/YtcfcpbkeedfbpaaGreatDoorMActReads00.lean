/- ValSpec, ValCalls, Kit, KitN, KitB, NamesSpec, NamesPlace, TermSpec, TermMem, joined. -/
import Derived.Test.YtcfcpbkeedfbpaaGreatDoorRows
import Derived.WalkKit
import Derived.WalkSpells
import Derived.WalkLawsBesides
import Derived.Lib.Hide
import Derived.Lib.SlicesS
import Derived.Maps.AppendAt
import Derived.Deep.AppendLies
import Derived.Deep.Draws
import Derived.Sort.OwnSorted
import Derived.LoopTactic
import Derived.Lib.SlicesCompact
import Derived.Sort.Walk0
import Derived.Test.YtcfcpbkeedfbpaaGreatDoorShelf
import Derived.BigQuiet
import Derived.Deep.QuietTactic
/- Plain mathematics for the layer of numbers: the nearest value, its bounds and its order. No condition. -/
namespace Go.Proofs.YtcfcpbkeedfbpaaGreatDoor
namespace ValSpec

/-- The nearest value. -/
def near (x : Int) : Int := if x < -1000000 then -1000000 else if 1000000 < x then 1000000 else x

theorem near_lo (x : Int) : -1000000 ≤ near x := by unfold near; split <;> (try split) <;> omega
theorem near_hi (x : Int) : near x ≤ 1000000 := by unfold near; split <;> (try split) <;> omega
theorem prod_bd (a b : Int) (h1 : -1000000 ≤ a) (h2 : a ≤ 1000000) (h3 : -1000000 ≤ b) (h4 : b ≤ 1000000) : -1000000000000 ≤ a * b ∧ a * b ≤ 1000000000000 := by
  have e : (a * b).natAbs ≤ 1000000 * 1000000 := by
    rw [Int.natAbs_mul]
    exact Nat.mul_le_mul (by omega) (by omega)
  omega

def plus (a b : Int) : Int := near (near a + near b)
def minus (a b : Int) : Int := near (near a - near b)
def times (a b : Int) : Int := near (near a * near b)

end ValSpec
end Go.Proofs.YtcfcpbkeedfbpaaGreatDoor

namespace Go.Proofs.YtcfcpbkeedfbpaaGreatDoor
open Go.RowKit ValSpec
set_option maxRecDepth 100000

theorem val_ret {k : IntKind} {a b : Int} (h : a = b) : Ending.returned (.int k a) = .returned (.int k b) := by rw [h]

def clampI (x lo hi : Int) : Int := if x < lo then lo else if hi < x then hi else x

theorem clamp_any (x lo hi : Int) (w : World) :
    Calls Tryz.prog 115 #[.int .i64 x, .int .i64 lo, .int .i64 hi] w fun e w' => e = .returned (.int .i64 (clampI x lo hi)) ∧ w = w' := by
  by_cases h1 : x < lo
  · go_enter Tryz.func115, Tryz.ntmps115
    go_wp2
    go_ret
    exact ⟨val_ret (by simp [clampI, h1]), rfl⟩
  · by_cases h2 : hi < x
    · go_enter Tryz.func115, Tryz.ntmps115
      go_wp2
      go_ret
      exact ⟨val_ret (by unfold clampI; rw [if_neg (by omega), if_pos (by omega)]), rfl⟩
    · go_enter Tryz.func115, Tryz.ntmps115
      go_wp2
      go_ret
      exact ⟨val_ret (by unfold clampI; rw [if_neg (by omega), if_neg (by omega)]), rfl⟩

theorem near_any (x : Int) (w : World) :
    Calls Tryz.prog 175 #[.int .i64 x] w fun e w' => e = .returned (.int .i64 (near x)) ∧ w = w' := by
  go_enter Tryz.func175, Tryz.ntmps175
  go_wp2_with (go_at_call 115; refine (clamp_any _ _ _ _).mono ?_; rintro e w' ⟨rfl, rfl⟩)
  go_ret
  exact ⟨rfl, rfl⟩

theorem plus_any (a b : Int) (w : World) :
    Calls Tryz.prog 179 #[.int .i64 a, .int .i64 b] w fun e w' => e = .returned (.int .i64 (plus a b)) ∧ w = w' := by
  have a1 := near_lo a
  have a2 := near_hi a
  have b1 := near_lo b
  have b2 := near_hi b
  go_enter Tryz.func179, Tryz.ntmps179
  go_wp2_with (go_at_call 175; refine (near_any _ _).mono ?_; rintro e w' ⟨rfl, rfl⟩)
  go_ret
  exact ⟨rfl, rfl⟩

theorem minus_any (a b : Int) (w : World) :
    Calls Tryz.prog 178 #[.int .i64 a, .int .i64 b] w fun e w' => e = .returned (.int .i64 (minus a b)) ∧ w = w' := by
  have a1 := near_lo a
  have a2 := near_hi a
  have b1 := near_lo b
  have b2 := near_hi b
  go_enter Tryz.func178, Tryz.ntmps178
  go_wp2_with (go_at_call 175; refine (near_any _ _).mono ?_; rintro e w' ⟨rfl, rfl⟩)
  go_ret
  exact ⟨rfl, rfl⟩

theorem times_any (a b : Int) (w : World) :
    Calls Tryz.prog 180 #[.int .i64 a, .int .i64 b] w fun e w' => e = .returned (.int .i64 (times a b)) ∧ w = w' := by
  have p := prod_bd (near a) (near b) (near_lo a) (near_hi a) (near_lo b) (near_hi b)
  obtain ⟨p1, p2⟩ := p
  go_enter Tryz.func180, Tryz.ntmps180
  go_wp2_with (go_at_call 175; refine (near_any _ _).mono ?_; rintro e w' ⟨rfl, rfl⟩)
  go_ret
  exact ⟨rfl, rfl⟩

end Go.Proofs.YtcfcpbkeedfbpaaGreatDoor

namespace Go.Proofs.YtcfcpbkeedfbpaaGreatDoor
open Go.RowKit

/-- The value v is a slice that reads as the list xs; where it has elements, its cells lie in a block that is there. -/
def Rd (w : World) (v : Value) (xs : List Value) : Prop :=
  ∃ (A : Option Addr) (n c : Nat), v = .slice A n c ∧ n = xs.length ∧ n ≤ c ∧ (0 < n → ∃ b off, A = some ⟨b, off, none⟩ ∧ b < w.heap.size ∧ ∀ j u, xs[j]? = some u → w.cell? ⟨b, off + j, none⟩ = some u)

section
variable {w w' : World} {v : Value} {xs : List Value}

theorem Rd.of_keep (h : Rd w v xs) (hs : w.heap.size ≤ w'.heap.size) (hk : ∀ p : Addr, p.block < w.heap.size → w'.cell? p = w.cell? p) : Rd w' v xs := by
  obtain ⟨A, n, c, rfl, hn, hc, hA⟩ := h
  refine ⟨A, n, c, rfl, hn, hc, fun h0 => ?_⟩
  obtain ⟨b, off, rfl, hlt, hcell⟩ := hA h0
  exact ⟨b, off, rfl, Nat.lt_of_lt_of_le hlt hs, fun j u hj => (hk ⟨b, off + j, none⟩ hlt).trans (hcell j u hj)⟩
theorem Rd.keep (h : Rd w v xs) (hb : Below w.heap.size w w') : Rd w' v xs := h.of_keep hb.size fun _ hp => hb.cell hp
theorem Rd.drewN (h : Rd w v xs) (k : Nat) : Rd (w.drewN k) v xs := h
theorem Rd.alloc (h : Rd w v xs) (o : Obj) : Rd (w.alloc o) v xs := h.keep ((Below.refl _ _).alloc (Nat.le_refl _) _)
theorem Rd.nil (w : World) : Rd w (.slice none 0 0) [] := ⟨none, 0, 0, rfl, rfl, Nat.le_refl _, fun h => absurd h (by omega)⟩
theorem Rd.own {base n : Nat} {e : TypeId} (h : w.ownsRow base e 1 v n xs) : Rd w v xs := by
  obtain ⟨hl, hv⟩ := h
  rw [Nat.mul_one] at hl
  rcases hv with ⟨rfl, rfl⟩ | ⟨g, cap, cur, rfl, hbase, hb, hnc, hcm, hcs, ht⟩
  · exact ⟨none, 0, 0, rfl, hl.symm, Nat.le_refl _, fun h => absurd h (by omega)⟩
  · refine ⟨_, n, cap, rfl, hl.symm, hnc, fun _ => ⟨g, 0, rfl, (Array.getElem?_eq_some_iff.1 hb).1, fun j u hj => ?_⟩⟩
    have hj' : j < xs.length := (List.getElem?_eq_some_iff.1 hj).1
    rw [← ht, Nat.mul_one, List.getElem?_take_of_lt (by omega), Array.getElem?_toList] at hj
    simp [World.cell?, hb, hj]
/-- The cells of a row that is known cell by cell. -/
theorem Rd.cells {b off n c : Nat} (hn : n = xs.length) (hc : n ≤ c) (hb : b < w.heap.size) (h : ∀ j u, xs[j]? = some u → w.cell? ⟨b, off + j, none⟩ = some u) : Rd w (.slice (some ⟨b, off, none⟩) n c) xs :=
  ⟨_, n, c, rfl, hn, hc, fun _ => ⟨b, off, rfl, hb, h⟩⟩
end

theorem addr_add (b off j : Nat) : (⟨b, off, none⟩ : Addr).add j = ⟨b, off + j, none⟩ := by unfold Addr.add; split <;> simp_all

section
variable {P : Program} (w : World)

theorem run_append_rd (base : Nat) (t ty e : TypeId) (i : TypeInfo) (z : Value) (bytes : Nat) (ht : P.underlying t = some (.slice e)) (hi : P.info? e = some i) (hz : i.zero = some z)
    (hsize : i.size = 1) (hby : i.bytes = bytes) (hzs : z.cells.size = 1)
    (v : Value) (n : Nat) (xs : List Value) (hown : w.ownsRow base e 1 v n xs) (x : Value) (news : List Value) (hx : Rd w x news) (h1 : ∀ u ∈ news, u.oneCell' = true)
    (h63 : n + news.length ≤ maxLen) (hbytes : (n + news.length) * bytes ≤ 140737488355328) (hbase : base ≤ w.heap.size) :
    ∃ v' w', (Builtin.append_ #[t, t] ty #[v, x]).run P w = .ok v' w' ∧ w'.ownsRow base e 1 v' (n + news.length) (xs ++ news) ∧ w.grownBy w' v.ownBlock ∧
      (v'.ownBlock = v.ownBlock ∨ v'.ownBlock = some w.heap.size) := by
  obtain ⟨A, m, c, rfl, hm, hmc, hA⟩ := hx
  subst hm
  rcases Nat.eq_zero_or_pos news.length with h0 | h0
  · have hn : news = [] := List.eq_nil_of_length_eq_zero h0
    subst hn
    rcases A with _ | a
    · refine ⟨v, w, ?_, by simpa using hown, ⟨rfl, rfl, rfl, Nat.le_refl _, fun _ _ _ => rfl⟩, .inl rfl⟩
      rcases hown.2 with ⟨rfl, rfl⟩ | ⟨g, cap, cur, rfl, _, _, hnc, _⟩
      · simp [Builtin.append_, run_underlying ht, sizeOf, typeInfo, hi, Builtin.lenOf, Builtin.firstCells]
      · simp [Builtin.append_, run_underlying ht, sizeOf, typeInfo, hi, Builtin.lenOf, Builtin.firstCells, hnc, storeCells]
    · obtain ⟨v', w', hrun, h2, h3, _, h5⟩ := run_append_own_at (P := P) w base t ty e i z 1 bytes ht hi hz hsize hby hzs (by omega) v n xs hown a 0 c [] rfl (by simp) (by simp) (by simpa using h63) (by simpa using hbytes) hbase
      exact ⟨v', w', hrun, by simpa using h2, h3, h5⟩
  · obtain ⟨b, off, rfl, hlt, hcell⟩ := hA h0
    obtain ⟨v', w', hrun, h2, h3, _, h5⟩ := run_append_own_at (P := P) w base t ty e i z 1 bytes ht hi hz hsize hby hzs (by omega) v n xs hown ⟨b, off, none⟩ news.length c news (by simp)
      (fun j u hj => by rw [addr_add]; exact hcell j u hj) h1 h63 hbytes hbase
    exact ⟨v', w', hrun, h2, h3, h5⟩

theorem wpList_append_rd {ops : Array Oper} {rest : List Oper} {o : Oper} {a : Act} {Q : Exit → Act → World → Prop} (hgd : o.guard = none) (s x : Operand) (t : TypeId)
    (ho : o.op = .call { callee := .builtin .append, args := #[s, x], argTypes := #[t, t] })
    (base : Nat) (e : TypeId) (i : TypeInfo) (z : Value) (bytes : Nat) (ht : P.underlying t = some (.slice e)) (hi : P.info? e = some i) (hz : i.zero = some z)
    (hsize : i.size = 1) (hby : i.bytes = bytes) (hzs : z.cells.size = 1)
    (v : Value) (n : Nat) (xs : List Value) (hs : a.eval s = v) (hown : w.ownsRow base e 1 v n xs) (y : Value) (news : List Value) (hy : a.eval x = y) (hr : Rd w y news) (h1 : ∀ u ∈ news, u.oneCell' = true)
    (h63 : n + news.length ≤ maxLen) (hbytes : (n + news.length) * bytes ≤ 140737488355328) (hbase : base ≤ w.heap.size)
    (h : ∀ v' w', w'.ownsRow base e 1 v' (n + news.length) (xs ++ news) → w.grownBy w' v.ownBlock → (v'.ownBlock = v.ownBlock ∨ v'.ownBlock = some w.heap.size) → wpList P ops Q rest (a.put o.dst v') w') : wpList P ops Q (o :: rest) a w :=
  wpList_plain hgd fun _ hK => by
    obtain ⟨v', w', hrun, h2, h3, h4⟩ := run_append_rd (P := P) w base t o.type e i z bytes ht hi hz hsize hby hzs v n xs hown y news hr h1 h63 hbytes hbase
    unfold Oper.wp execOp
    simp only [ho, resolve, invoke, builtin, Sem.run_bind, Sem.run_pure, Result.andThen_ok, List.map_toArray, List.map_cons, List.map_nil, hs, hy, hrun]
    exact hK _ _ (h v' w' h2 h3 h4)
end

/-- Texts as values. -/
def strV (l : List ByteArray) : List Value := l.map .string
def intV (l : List Int) : List Value := l.map (.int .i64)
@[simp] theorem strV_length (l : List ByteArray) : (strV l).length = l.length := by simp [strV]
@[simp] theorem intV_length (l : List Int) : (intV l).length = l.length := by simp [intV]
theorem strV_get (l : List ByteArray) (j : Nat) : (strV l)[j]? = l[j]?.map .string := by simp [strV]
theorem intV_get (l : List Int) (j : Nat) : (intV l)[j]? = l[j]?.map (.int .i64) := by simp [intV]
theorem strV_one (l : List ByteArray) : ∀ u ∈ strV l, u.oneCell' = true := by
  intro u hu
  obtain ⟨s, _, rfl⟩ := List.mem_map.1 hu
  rfl
theorem intV_one (l : List Int) : ∀ u ∈ intV l, u.oneCell' = true := by
  intro u hu
  obtain ⟨s, _, rfl⟩ := List.mem_map.1 hu
  rfl
theorem strV_append (a b : List ByteArray) : strV a ++ strV b = strV (a ++ b) := by simp [strV]
theorem intV_append (a b : List Int) : intV a ++ intV b = intV (a ++ b) := by simp [intV]

/-- Opened: what a walk takes of a slice of texts. -/
theorem Rd.strs {w : World} {v : Value} {l : List ByteArray} (h : Rd w v (strV l)) :
    ∃ (A : Option Addr) (n c : Nat), v = .slice A n c ∧ l.length = n ∧ n ≤ c ∧ (0 < n → ∃ b off, A = some ⟨b, off, none⟩ ∧ b < w.heap.size ∧ ∀ j s, l[j]? = some s → w.cell? ⟨b, off + j, none⟩ = some (.string s)) := by
  obtain ⟨A, n, c, rfl, hn, hc, hA⟩ := h
  refine ⟨A, n, c, rfl, by simpa using hn.symm, hc, fun h0 => ?_⟩
  obtain ⟨b, off, rfl, hb, hcell⟩ := hA h0
  exact ⟨b, off, rfl, hb, fun j s hj => hcell j _ (by rw [strV_get, hj]; rfl)⟩
theorem Rd.ints {w : World} {v : Value} {l : List Int} (h : Rd w v (intV l)) :
    ∃ (A : Option Addr) (n c : Nat), v = .slice A n c ∧ l.length = n ∧ n ≤ c ∧ (0 < n → ∃ b off, A = some ⟨b, off, none⟩ ∧ b < w.heap.size ∧ ∀ j s, l[j]? = some s → w.cell? ⟨b, off + j, none⟩ = some (.int .i64 s)) := by
  obtain ⟨A, n, c, rfl, hn, hc, hA⟩ := h
  refine ⟨A, n, c, rfl, by simpa using hn.symm, hc, fun h0 => ?_⟩
  obtain ⟨b, off, rfl, hb, hcell⟩ := hA h0
  exact ⟨b, off, rfl, hb, fun j s hj => hcell j _ (by rw [intV_get, hj]; rfl)⟩

/-- A slice that a literal has just made. -/
theorem Rd.lit {w : World} {cs : Array Value} {e : TypeId} {n : Nat} (hn : n = cs.size) : Rd (w.alloc (.cells cs e)) (.slice (some ⟨w.heap.size, 0, none⟩) n n) cs.toList :=
  Rd.cells (by simpa using hn) (Nat.le_refl _) (by simp) fun j u hj => by
    rw [Array.getElem?_toList] at hj
    rw [World.cell?_alloc_at _ _ _ _ rfl]
    simpa using hj

theorem ret_bool {a b : Bool} (h : a = b) : Ending.returned (.bool a) = .returned (.bool b) := by rw [h]
theorem ret_int {a b : Int} (h : a = b) : Ending.returned (.int .i64 a) = .returned (.int .i64 b) := by rw [h]
theorem bytes_ne {x y : ByteArray} (h : (x.toList == y.toList) = false) : x ≠ y := (Lib.bytes_beq_false_iff x y).1 h
theorem bytes_eq {x y : ByteArray} (h : (x.toList == y.toList) = true) : x = y := (Lib.bytes_beq_iff x y).1 h
theorem below_two' {a b c : World} (h : Below a.heap.size a b) (k : Below b.heap.size b c) : Below a.heap.size a c := h.trans (k.mono h.size)
theorem below_drewN {B : Nat} {a w : World} (h : Below B a w) (n : Nat) : Below B a (w.drewN n) := ⟨h.os, h.tape, h.output, h.size, h.block⟩
theorem get_lt {α : Type} {l : List α} {k : Nat} {x : α} (h : l[k]? = some x) : k < l.length := (List.getElem?_eq_some_iff.1 h).1
theorem get_some {α : Type} {l : List α} {k : Nat} (h : k < l.length) : ∃ x, l[k]? = some x := ⟨l[k], List.getElem?_eq_getElem h⟩
theorem take_next {α : Type} {l : List α} {k : Nat} {x : α} (h : l[k]? = some x) : l.take (k + 1) = l.take k ++ [x] := by rw [List.take_add_one, h]; rfl
end Go.Proofs.YtcfcpbkeedfbpaaGreatDoor

namespace Go.Proofs.YtcfcpbkeedfbpaaGreatDoor
open Go.RowKit

/-- The value v is a slice of n elements of k cells each that reads as the cells xs. -/
def Rdk (k : Nat) (w : World) (v : Value) (n : Nat) (xs : List Value) : Prop :=
  ∃ (A : Option Addr) (c : Nat), v = .slice A n c ∧ n ≤ c ∧ xs.length = n * k ∧ (0 < n → ∃ b off, A = some ⟨b, off, none⟩ ∧ b < w.heap.size ∧ ∀ j u, xs[j]? = some u → w.cell? ⟨b, off + j, none⟩ = some u)

section
variable {k n : Nat} {w w' : World} {v : Value} {xs : List Value}
theorem Rdk.keep (h : Rdk k w v n xs) (hb : Below w.heap.size w w') : Rdk k w' v n xs := by
  obtain ⟨A, c, rfl, hc, hl, hA⟩ := h
  refine ⟨A, c, rfl, hc, hl, fun h0 => ?_⟩
  obtain ⟨b, off, rfl, hlt, hcell⟩ := hA h0
  exact ⟨b, off, rfl, Nat.lt_of_lt_of_le hlt hb.size, fun j u hj => (hb.cell (p := ⟨b, off + j, none⟩) hlt).trans (hcell j u hj)⟩
theorem Rdk.alloc (h : Rdk k w v n xs) (o : Obj) : Rdk k (w.alloc o) v n xs := h.keep ((Below.refl _ _).alloc (Nat.le_refl _) _)
theorem Rdk.nil (k : Nat) (w : World) : Rdk k w (.slice none 0 0) 0 [] := ⟨none, 0, rfl, Nat.le_refl _, by simp, fun h => absurd h (by omega)⟩
theorem Rdk.own {base : Nat} {e : TypeId} (h : w.ownsRow base e k v n xs) : Rdk k w v n xs := by
  obtain ⟨hl, hv⟩ := h
  rcases hv with ⟨rfl, rfl⟩ | ⟨g, cap, cur, rfl, hbase, hb, hnc, hcm, hcs, ht⟩
  · exact ⟨none, 0, rfl, Nat.le_refl _, hl, fun h => absurd h (by omega)⟩
  · refine ⟨_, cap, rfl, hnc, hl, fun _ => ⟨g, 0, rfl, (Array.getElem?_eq_some_iff.1 hb).1, fun j u hj => ?_⟩⟩
    have hj' : j < xs.length := (List.getElem?_eq_some_iff.1 hj).1
    rw [← ht, List.getElem?_take_of_lt (by omega), Array.getElem?_toList] at hj
    simp [World.cell?, hb, hj]
end

theorem flat_get {α : Type} {k : Nat} {f : α → List Value} (hf : ∀ a, (f a).length = k) : ∀ {l : List α} {i j : Nat} {a : α}, l[i]? = some a → j < k → (l.flatMap f)[i * k + j]? = (f a)[j]?
  | [], _, _, _, h, _ => by simp at h
  | b :: t, 0, j, a, h, hj => by
    simp at h; subst h
    rw [List.flatMap_cons, Nat.zero_mul, Nat.zero_add, List.getElem?_append_left (by rw [hf]; exact hj)]
  | b :: t, i + 1, j, a, h, hj => by
    rw [List.flatMap_cons, List.getElem?_append_right (by rw [hf, Nat.add_mul]; omega), hf, show (i + 1) * k + j - k = i * k + j by rw [Nat.add_mul]; omega]
    exact flat_get hf (l := t) (by simpa using h) hj
theorem flat_length {α : Type} {k : Nat} {f : α → List Value} (hf : ∀ a, (f a).length = k) (l : List α) : (l.flatMap f).length = l.length * k := by
  induction l with
  | nil => simp
  | cons b t ih => rw [List.flatMap_cons, List.length_append, hf, ih, List.length_cons, Nat.add_mul]; omega

section
variable {P : Program} (w : World)
/-- append of whatever reads as a slice of elements of k cells (nil, empty or not) onto a row of the call's own. -/
theorem run_append_rdk (base : Nat) (t ty e : TypeId) (i : TypeInfo) (z : Value) (k bytes : Nat) (ht : P.underlying t = some (.slice e)) (hi : P.info? e = some i) (hz : i.zero = some z)
    (hsize : i.size = k) (hby : i.bytes = bytes) (hzs : z.cells.size = k) (hk : 0 < k)
    (v : Value) (n : Nat) (xs : List Value) (hown : w.ownsRow base e k v n xs) (x : Value) (m : Nat) (news : List Value) (hx : Rdk k w x m news) (h1 : ∀ u ∈ news, u.oneCell' = true)
    (h63 : n + m ≤ maxLen) (hbytes : (n + m) * bytes ≤ 140737488355328) (hbase : base ≤ w.heap.size) :
    ∃ v' w', (Builtin.append_ #[t, t] ty #[v, x]).run P w = .ok v' w' ∧ w'.ownsRow base e k v' (n + m) (xs ++ news) ∧ w.grownBy w' v.ownBlock ∧
      (v'.ownBlock = v.ownBlock ∨ v'.ownBlock = some w.heap.size) := by
  obtain ⟨A, c, rfl, hmc, hl, hA⟩ := hx
  rcases Nat.eq_zero_or_pos m with h0 | h0
  · subst h0
    have hn : news = [] := List.eq_nil_of_length_eq_zero (by omega)
    subst hn
    rcases A with _ | a
    · refine ⟨v, w, ?_, by simpa using hown, ⟨rfl, rfl, rfl, Nat.le_refl _, fun _ _ _ => rfl⟩, .inl rfl⟩
      rcases hown.2 with ⟨rfl, rfl⟩ | ⟨g, cap, cur, rfl, _, _, hnc, _⟩
      · simp [Builtin.append_, run_underlying ht, sizeOf, typeInfo, hi, Builtin.lenOf, Builtin.firstCells]
      · simp [Builtin.append_, run_underlying ht, sizeOf, typeInfo, hi, Builtin.lenOf, Builtin.firstCells, hnc, storeCells]
    · obtain ⟨v', w', hrun, h2, h3, _, h5⟩ := run_append_own_at (P := P) w base t ty e i z k bytes ht hi hz hsize hby hzs hk v n xs hown a 0 c [] (by simp) (by simp) (by simp) (by simpa using h63) (by simpa using hbytes) hbase
      exact ⟨v', w', hrun, by simpa using h2, h3, h5⟩
  · obtain ⟨b, off, rfl, hlt, hcell⟩ := hA h0
    obtain ⟨v', w', hrun, h2, h3, _, h5⟩ := run_append_own_at (P := P) w base t ty e i z k bytes ht hi hz hsize hby hzs hk v n xs hown ⟨b, off, none⟩ m c news hl
      (fun j u hj => by rw [addr_add]; exact hcell j u hj) h1 h63 hbytes hbase
    exact ⟨v', w', hrun, h2, h3, h5⟩

theorem wpList_append_rdk {ops : Array Oper} {rest : List Oper} {o : Oper} {a : Act} {Q : Exit → Act → World → Prop} (hgd : o.guard = none) (s x : Operand) (t : TypeId)
    (ho : o.op = .call { callee := .builtin .append, args := #[s, x], argTypes := #[t, t] })
    (base : Nat) (e : TypeId) (i : TypeInfo) (z : Value) (k bytes : Nat) (ht : P.underlying t = some (.slice e)) (hi : P.info? e = some i) (hz : i.zero = some z)
    (hsize : i.size = k) (hby : i.bytes = bytes) (hzs : z.cells.size = k) (hk : 0 < k)
    (v : Value) (n : Nat) (xs : List Value) (hs : a.eval s = v) (hown : w.ownsRow base e k v n xs) (y : Value) (m : Nat) (news : List Value) (hy : a.eval x = y) (hr : Rdk k w y m news) (h1 : ∀ u ∈ news, u.oneCell' = true)
    (h63 : n + m ≤ maxLen) (hbytes : (n + m) * bytes ≤ 140737488355328) (hbase : base ≤ w.heap.size)
    (h : ∀ v' w', w'.ownsRow base e k v' (n + m) (xs ++ news) → w.grownBy w' v.ownBlock → (v'.ownBlock = v.ownBlock ∨ v'.ownBlock = some w.heap.size) → wpList P ops Q rest (a.put o.dst v') w') : wpList P ops Q (o :: rest) a w :=
  wpList_plain hgd fun _ hK => by
    obtain ⟨v', w', hrun, h2, h3, h4⟩ := run_append_rdk (P := P) w base t o.type e i z k bytes ht hi hz hsize hby hzs hk v n xs hown y m news hr h1 h63 hbytes hbase
    unfold Oper.wp execOp
    simp only [ho, resolve, invoke, builtin, Sem.run_bind, Sem.run_pure, Result.andThen_ok, List.map_toArray, List.map_cons, List.map_nil, hs, hy, hrun]
    exact hK _ _ (h v' w' h2 h3 h4)
end
end Go.Proofs.YtcfcpbkeedfbpaaGreatDoor

namespace Go.Proofs.YtcfcpbkeedfbpaaGreatDoor
open Go.RowKit

theorem cell_of_block' {w : World} {b : Nat} {cs : Array Value} {t : TypeId} (h : w.heap[b]? = some (.cells cs t (0, 0))) {i : Nat} {v : Value} (hi : cs[i]? = some v) : w.cell? ⟨b, i, none⟩ = some v := by simp [World.cell?, h, hi]
theorem free_of_block' {w : World} {b : Nat} {cs : Array Value} {t : TypeId} (h : w.heap[b]? = some (.cells cs t (0, 0))) (i : Nat) : w.frozen? ⟨b, i, none⟩ = false := by simp [World.frozen?, h]
theorem block_setCell' {w : World} {b : Nat} {cs : Array Value} {t : TypeId} (h : w.heap[b]? = some (.cells cs t (0, 0))) (i : Nat) (u : Value) : (w.setCell ⟨b, i, none⟩ u).heap[b]? = some (.cells (cs.setIfInBounds i u) t (0, 0)) := by
  have hlt := (Array.getElem?_eq_some_iff.1 h).1
  have h' : w.heap[b] = .cells cs t (0, 0) := by simpa [Array.getElem?_eq_getElem hlt] using h
  show (w.heap.modify b _)[b]? = _
  rw [Array.getElem?_eq_getElem (by simpa using hlt), Array.getElem_modify_self, h']
  rfl
/-- Nothing but block B has changed, and blocks may have come. -/
theorem but_refl (w : World) (v : Option Nat) : w.grownBy w v := ⟨rfl, rfl, rfl, Nat.le_refl _, fun _ _ _ => rfl⟩
theorem but_trans {a b c : World} {B : Nat} (h : a.grownBy b (some B)) (k : b.grownBy c (some B)) : a.grownBy c (some B) :=
  ⟨k.os.trans h.os, k.tape.trans h.tape, k.output.trans h.output, Nat.le_trans h.size k.size, fun i hi hn => (k.block i (Nat.lt_of_lt_of_le hi h.size) hn).trans (h.block i hi hn)⟩
theorem but_set {a b : World} {B : Nat} (h : a.grownBy b (some B)) (i : Nat) (u : Value) : a.grownBy (b.setCell ⟨B, i, none⟩ u) (some B) :=
  but_trans h ⟨rfl, rfl, rfl, by simp [World.setCell], fun k _ hn => Below.heap_setCell _ _ _ _ (by intro e; exact hn (by rw [e]))⟩
theorem but_set_new {a b : World} {B : Nat} (h : a.grownBy b (some B)) {k : Nat} (hk : a.heap.size ≤ k) (i : Nat) (u : Value) : a.grownBy (b.setCell ⟨k, i, none⟩ u) (some B) :=
  ⟨h.os, h.tape, h.output, by simp [World.setCell]; exact h.size, fun j hj hn => (Below.heap_setCell _ _ _ _ (by simp; omega)).trans (h.block j hj hn)⟩
theorem but_alloc {a b : World} {B : Nat} (h : a.grownBy b (some B)) (o : Obj) : a.grownBy (b.alloc o) (some B) :=
  ⟨h.os, h.tape, h.output, by simp; exact Nat.le_succ_of_le h.size, fun j hj hn => (Below.heap_alloc _ _ _ (Nat.lt_of_lt_of_le hj h.size)).trans (h.block j hj hn)⟩
theorem but_drew {a b : World} {B : Nat} (h : a.grownBy b (some B)) : a.grownBy b.drew (some B) := ⟨h.os, h.tape, h.output, h.size, h.block⟩
theorem own_keep {w w' : World} {base n k : Nat} {e : TypeId} {v : Value} {xs : List Value} (h : w.ownsRow base e k v n xs) (hb : Below w.heap.size w w') : w'.ownsRow base e k v n xs := by
  refine ⟨h.1, ?_⟩
  rcases h.2 with h | ⟨g, cap, cur, h1, h2, h3, h4⟩
  · exact .inl h
  · exact .inr ⟨g, cap, cur, h1, h2, (hb.block g (Array.getElem?_eq_some_iff.1 h3).1).trans h3, h4⟩
theorem own_but {w w' : World} {base n k B : Nat} {e : TypeId} {v : Value} {xs : List Value} (h : w.ownsRow base e k v n xs) (hb : w.grownBy w' (some B)) (hB : B < base) : w'.ownsRow base e k v n xs := by
  refine ⟨h.1, ?_⟩
  rcases h.2 with h | ⟨g, cap, cur, h1, h2, h3, h4⟩
  · exact .inl h
  · exact .inr ⟨g, cap, cur, h1, h2, (hb.block g (Array.getElem?_eq_some_iff.1 h3).1 (by simp; omega)).trans h3, h4⟩
theorem own_shape {w : World} {base n k : Nat} {e : TypeId} {v : Value} {xs : List Value} (h : w.ownsRow base e k v n xs) : ∃ A c, v = .slice A n c := by
  rcases h.2 with ⟨h1, h2⟩ | ⟨g, cap, cur, h1, _⟩
  · subst h2
    exact ⟨_, _, h1⟩
  · exact ⟨_, _, h1⟩
theorem own_weak {w : World} {base base' n k : Nat} {e : TypeId} {v : Value} {xs : List Value} (h : w.ownsRow base e k v n xs) (hb : base' ≤ base) : w.ownsRow base' e k v n xs := by
  refine ⟨h.1, ?_⟩
  rcases h.2 with h | ⟨g, cap, cur, h1, h2, h3⟩
  · exact .inl h
  · exact .inr ⟨g, cap, cur, h1, by omega, h3⟩
theorem own_block_bd {w : World} {base n k : Nat} {e : TypeId} {v : Value} {xs : List Value} (h : w.ownsRow base e k v n xs) : ∀ j, v.ownBlock = some j → base ≤ j ∧ j < w.heap.size := by
  intro j hj
  rcases h.2 with ⟨h1, h2⟩ | ⟨g, cap, cur, h1, h2, h3, h4⟩
  · subst h1; simp [Value.ownBlock] at hj
  · subst h1
    simp [Value.ownBlock] at hj
    subst hj
    exact ⟨h2, (Array.getElem?_eq_some_iff.1 h3).1⟩
theorem cells_2 {w : World} {b : Nat} {T : TypeId} {x0 x1 : Value} (h : w.heap[b]? = some (.cells #[x0, x1] T (0, 0))) : w.cell? ⟨b, 0, none⟩ = some x0 ∧ w.cell? ⟨b, 1, none⟩ = some x1 :=
  ⟨cell_of_block' h (i := 0) rfl, cell_of_block' h (i := 1) rfl⟩
theorem free_2 {w : World} {b : Nat} {T : TypeId} {cs : Array Value} (h : w.heap[b]? = some (.cells cs T (0, 0))) : w.frozen? ⟨b, 0, none⟩ = false ∧ w.frozen? ⟨b, 1, none⟩ = false :=
  ⟨free_of_block' h 0, free_of_block' h 1⟩
theorem cells_4 {w : World} {b : Nat} {T : TypeId} {x0 x1 x2 x3 : Value} (h : w.heap[b]? = some (.cells #[x0, x1, x2, x3] T (0, 0))) : w.cell? ⟨b, 0, none⟩ = some x0 ∧ w.cell? ⟨b, 1, none⟩ = some x1 ∧ w.cell? ⟨b, 2, none⟩ = some x2 ∧ w.cell? ⟨b, 3, none⟩ = some x3 :=
  ⟨cell_of_block' h (i := 0) rfl, cell_of_block' h (i := 1) rfl, cell_of_block' h (i := 2) rfl, cell_of_block' h (i := 3) rfl⟩
theorem free_4 {w : World} {b : Nat} {T : TypeId} {cs : Array Value} (h : w.heap[b]? = some (.cells cs T (0, 0))) : w.frozen? ⟨b, 0, none⟩ = false ∧ w.frozen? ⟨b, 1, none⟩ = false ∧ w.frozen? ⟨b, 2, none⟩ = false ∧ w.frozen? ⟨b, 3, none⟩ = false :=
  ⟨free_of_block' h 0, free_of_block' h 1, free_of_block' h 2, free_of_block' h 3⟩
theorem cells_6 {w : World} {b : Nat} {T : TypeId} {x0 x1 x2 x3 x4 x5 : Value} (h : w.heap[b]? = some (.cells #[x0, x1, x2, x3, x4, x5] T (0, 0))) : w.cell? ⟨b, 0, none⟩ = some x0 ∧ w.cell? ⟨b, 1, none⟩ = some x1 ∧ w.cell? ⟨b, 2, none⟩ = some x2 ∧ w.cell? ⟨b, 3, none⟩ = some x3 ∧ w.cell? ⟨b, 4, none⟩ = some x4 ∧ w.cell? ⟨b, 5, none⟩ = some x5 :=
  ⟨cell_of_block' h (i := 0) rfl, cell_of_block' h (i := 1) rfl, cell_of_block' h (i := 2) rfl, cell_of_block' h (i := 3) rfl, cell_of_block' h (i := 4) rfl, cell_of_block' h (i := 5) rfl⟩
theorem free_6 {w : World} {b : Nat} {T : TypeId} {cs : Array Value} (h : w.heap[b]? = some (.cells cs T (0, 0))) : w.frozen? ⟨b, 0, none⟩ = false ∧ w.frozen? ⟨b, 1, none⟩ = false ∧ w.frozen? ⟨b, 2, none⟩ = false ∧ w.frozen? ⟨b, 3, none⟩ = false ∧ w.frozen? ⟨b, 4, none⟩ = false ∧ w.frozen? ⟨b, 5, none⟩ = false :=
  ⟨free_of_block' h 0, free_of_block' h 1, free_of_block' h 2, free_of_block' h 3, free_of_block' h 4, free_of_block' h 5⟩
end Go.Proofs.YtcfcpbkeedfbpaaGreatDoor

namespace Go.Proofs.YtcfcpbkeedfbpaaGreatDoor
namespace NamesSpec
open Go.Lib

def kw : List (List UInt8) := [[99, 104, 97, 114, 116], [101, 118, 101, 110, 116], [118, 97, 114], [108, 101, 97, 102], [111, 114], [97, 110, 100], [101, 110, 116, 101, 114], [101, 120, 105, 116], [111, 110], [97, 117, 116, 111], [97, 110, 121], [105, 110], [109, 105, 110], [109, 97, 120], [110, 111, 116], [116, 114, 117, 101], [102, 97, 108, 115, 101]]
def kwS : List ByteArray := [⟨#[99, 104, 97, 114, 116]⟩, ⟨#[101, 118, 101, 110, 116]⟩, ⟨#[118, 97, 114]⟩, ⟨#[108, 101, 97, 102]⟩, ⟨#[111, 114]⟩, ⟨#[97, 110, 100]⟩, ⟨#[101, 110, 116, 101, 114]⟩, ⟨#[101, 120, 105, 116]⟩, ⟨#[111, 110]⟩, ⟨#[97, 117, 116, 111]⟩, ⟨#[97, 110, 121]⟩, ⟨#[105, 110]⟩, ⟨#[109, 105, 110]⟩, ⟨#[109, 97, 120]⟩, ⟨#[110, 111, 116]⟩, ⟨#[116, 114, 117, 101]⟩, ⟨#[102, 97, 108, 115, 101]⟩]
def isKw (l : List UInt8) : Bool := kw.contains l
def letter (c : UInt8) : Bool := 97 ≤ c && c ≤ 122
def later (c : UInt8) : Bool := letter c || (48 ≤ c && c ≤ 57) || c == 95
def isName (l : List UInt8) : Bool := decide (0 < l.length) && decide (l.length ≤ 12) && !isKw l && l.all later && l.head?.any letter

theorem isName_size {l : List UInt8} (h : l.length = 0 ∨ 12 < l.length) : isName l = false := by
  unfold isName
  rcases h with h | h
  · rw [h]; rfl
  · rw [decide_eq_false (show ¬ l.length ≤ 12 by omega)]; simp
theorem isName_kw {l : List UInt8} (h : isKw l = true) : isName l = false := by unfold isName; rw [h]; simp
theorem isName_later {l : List UInt8} {k : Nat} {c : UInt8} (hc : l[k]? = some c) (h : later c = false) : isName l = false := by
  have : l.all later = false := by
    rw [List.all_eq_false]
    exact ⟨c, List.mem_of_getElem? hc, by simp [h]⟩
  unfold isName; rw [this]; simp
theorem isName_head {l : List UInt8} {c : UInt8} (hc : l[0]? = some c) (h : letter c = false) : isName l = false := by
  have : l.head?.any letter = false := by rw [List.head?_eq_getElem?, hc]; simpa using h
  unfold isName; rw [this]; simp
theorem isName_yes {l : List UInt8} (h1 : 0 < l.length) (h2 : l.length ≤ 12) (h3 : isKw l = false) (h4 : l.all later = true) (h5 : ∀ c, l[0]? = some c → letter c = true) : isName l = true := by
  have h6 : l.head?.any letter = true := by
    cases l with
    | nil => simp at h1
    | cons c t => simpa using h5 c rfl
  unfold isName; rw [decide_eq_true h1, decide_eq_true h2, h3, h4, h6]; rfl
theorem letter_later {c : UInt8} (h : letter c = true) : later c = true := by unfold later; rw [h]; rfl
theorem kwS_mem (s : ByteArray) : s ∈ kwS ↔ isKw s.data.toList = true := by
  have e : kwS.map (·.data.toList) = kw := by decide
  unfold isKw
  rw [List.contains_iff_mem, ← e, List.mem_map]
  constructor
  · intro h; exact ⟨s, h, rfl⟩
  · rintro ⟨x, hx, he⟩
    have : x = s := ByteArray.ext (Array.toList_inj.mp he)
    exact this ▸ hx

/-- Is a text in a list? -/
def hasS (l : List ByteArray) (s : ByteArray) : Bool := l.any fun x => decide (x = s)
theorem hasS_iff {l : List ByteArray} {s : ByteArray} : hasS l s = true ↔ s ∈ l := by
  unfold hasS
  rw [List.any_eq_true]
  constructor
  · rintro ⟨x, hx, he⟩
    exact of_decide_eq_true he ▸ hx
  · intro h
    exact ⟨s, h, decide_eq_true rfl⟩
theorem hasS_no {l : List ByteArray} {s : ByteArray} : hasS l s = false ↔ s ∉ l := by rw [← hasS_iff, Bool.not_eq_true]
/-- The place of a text in a list. -/
theorem place_ge (l : List ByteArray) (s : ByteArray) : decide (0 ≤ idxOfS l s) = hasS l s := by
  rw [Bool.eq_iff_iff, hasS_iff]; simp [idxOfS_nonneg_iff]
theorem place_kw (s : ByteArray) : decide (0 ≤ idxOfS kwS s) = isKw s.data.toList := by
  rw [place_ge, Bool.eq_iff_iff, hasS_iff, kwS_mem]
theorem place_hit {l : List ByteArray} {k : Nat} {s : ByteArray} (h : l[k]? = some s) (hn : s ∉ l.take k) : idxOfS l s = k := by
  have hk := get_lt h
  have := idxOfS_hit l l.length k s hk (Nat.le_refl _) (by rw [List.getD_eq_getElem?_getD, h]; rfl) (fun j hj he => hn (by
    rw [List.mem_iff_getElem?]
    refine ⟨j, ?_⟩
    rw [List.getElem?_take_of_lt hj]
    rw [List.getD_eq_getElem?_getD, List.getElem?_eq_getElem (by omega)] at he
    rw [List.getElem?_eq_getElem (by omega)]
    simpa using he))
  rwa [List.take_of_length_le (Nat.le_refl _)] at this
theorem place_miss {l : List ByteArray} {s : ByteArray} (h : s ∉ l) : idxOfS l s = -1 := by
  have := idxOfS_miss l l.length s (fun j hj he => h (by
    rw [List.mem_iff_getElem?]
    refine ⟨j, ?_⟩
    rw [List.getD_eq_getElem?_getD, List.getElem?_eq_getElem hj] at he
    rw [List.getElem?_eq_getElem hj]
    simpa using he))
  rwa [List.take_of_length_le (Nat.le_refl _)] at this
theorem first_at {l : List ByteArray} {s : ByteArray} (h : s ∈ l) : ∃ k : Nat, l[k]? = some s ∧ s ∉ l.take k := by
  induction l with
  | nil => simp at h
  | cons a t ih =>
    by_cases ha : a = s
    · exact ⟨0, by simp [ha], by simp⟩
    · have ht : s ∈ t := by
        rcases List.mem_cons.1 h with h | h
        · exact absurd h.symm ha
        · exact h
      obtain ⟨k, h1, h2⟩ := ih ht
      refine ⟨k + 1, by simpa using h1, ?_⟩
      rw [List.take_succ_cons, List.mem_cons]
      rintro (h3 | h3)
      · exact ha h3.symm
      · exact h2 h3
theorem place_bd (l : List ByteArray) (s : ByteArray) : -1 ≤ idxOfS l s ∧ idxOfS l s ≤ l.length := by
  by_cases h : s ∈ l
  · obtain ⟨k, h1, h2⟩ := first_at h
    rw [place_hit h1 h2]
    have := get_lt h1
    omega
  · rw [place_miss h]; omega
theorem mem_take_mono {l : List ByteArray} {s : ByteArray} {j k : Nat} (h : s ∈ l.take j) (hj : j ≤ k) : s ∈ l.take k := by
  rw [show j = min j k by omega, ← List.take_take] at h
  exact List.mem_of_mem_take h
theorem place_lt {l : List ByteArray} {i : Nat} {s : ByteArray} (h : l[i]? = some s) : decide (idxOfS l s < (i : Int)) = hasS (l.take i) s := by
  obtain ⟨k, h1, h2⟩ := first_at (List.mem_of_getElem? h)
  rw [place_hit h1 h2, Bool.eq_iff_iff, hasS_iff, decide_eq_true_iff]
  constructor
  · intro hk
    rw [List.mem_iff_getElem?]
    exact ⟨k, by rw [List.getElem?_take_of_lt (by omega)]; exact h1⟩
  · intro hm
    rcases Nat.lt_or_ge k i with hlt | hge
    · omega
    · exact absurd (mem_take_mono hm hge) h2

theorem getD_of {l : List ByteArray} {k : Nat} {s : ByteArray} (h : l[k]? = some s) : l.getD k ByteArray.empty = s := by rw [List.getD_eq_getElem?_getD, h]; rfl
/-- How often a text stands in a list. -/
def times (l : List ByteArray) (s : ByteArray) : Int := ((l.filter fun x => decide (x = s)).length : Nat)
end NamesSpec
end Go.Proofs.YtcfcpbkeedfbpaaGreatDoor

namespace Go.Proofs.YtcfcpbkeedfbpaaGreatDoor
open Go.RowKit NamesSpec Go.Lib
set_option maxRecDepth 100000

def RetStrs (W : World) (l : List ByteArray) (e : Ending) (w' : World) : Prop := ∃ v, e = .returned v ∧ Rd w' v (strV l) ∧ Below W.heap.size W w'
def RetInts (W : World) (l : List Int) (e : Ending) (w' : World) : Prop := ∃ v, e = .returned v ∧ Rd w' v (intV l) ∧ Below W.heap.size W w'

def PlaceRel (l : List ByteArray) (n : Nat) (s : ByteArray) (i : Value) : Prop := ∃ k : Nat, k ≤ n ∧ i = .int .i64 k ∧ s ∉ l.take k
set_option maxHeartbeats 400000 in
theorem rplace_any (v : Value) (l : List ByteArray) (s : ByteArray) (w : World) (h : Rd w v (strV l)) (hm : l.length ≤ 9223372036854775807) :
    Calls Tryz.prog 89 #[v, .string s] w fun e w' => e = .returned (.int .i64 (idxOfS l s)) ∧ w = w' := by
  obtain ⟨A, n, c, rfl, hn, hc, hA⟩ := h.strs
  have HA := Lib.hid hA
  have HN := Lib.hid hn
  have hm' : n ≤ 9223372036854775807 := by omega
  clear hA hn h hc hm
  go_enter Tryz.func89, Tryz.ntmps89
  go_wp2
  go_loop [5] (fun i => PlaceRel l n s i) (fun i => n - (RowKit.intOf i).toNat)
  case atStart => exact ⟨0, Nat.zero_le _, rfl, by simp⟩
  case round =>
    obtain ⟨k, hk, rfl, hno⟩ := hrel
    by_cases hlt : k < n
    · obtain ⟨b, off, rfl, hb, hcell⟩ := HA.out (by omega)
      obtain ⟨x, hx⟩ : ∃ x, l[k]? = some x := get_some (by have := HN.out; omega)
      have hck := hcell k x hx
      have HX := Lib.hid hx
      have HO := Lib.hid hno
      clear hcell hx hno
      rcases hxs : (x.toList == s.toList) with _ | _
      · go_wp2
        go_round
        case rel =>
          refine ⟨k + 1, by omega, by go_num, ?_⟩
          rw [take_next HX.out, List.mem_append, List.mem_singleton]
          rintro (h1 | h1)
          · exact HO.out h1
          · exact bytes_ne hxs h1.symm
        case measure => simp [RowKit.intOf]; omega
      · go_wp2
        go_ret
        exact ⟨ret_int (by rw [← bytes_eq hxs] at HO ⊢; exact (place_hit HX.out HO.out).symm), rfl⟩
    · go_wp2
      go_ret
      have := HN.out
      exact ⟨ret_int (by rw [List.take_of_length_le (by omega)] at hno; exact (place_miss hno).symm), rfl⟩

theorem nplace_any (v : Value) (l : List ByteArray) (s : ByteArray) (w : World) (h : Rd w v (strV l)) (hm : l.length ≤ 9223372036854775807) :
    Calls Tryz.prog 177 #[v, .string s] w fun e w' => e = .returned (.int .i64 (idxOfS l s)) ∧ w = w' := by
  obtain ⟨A, n, c, rfl, hn, hc, hA⟩ := h.strs
  rcases Nat.eq_zero_or_pos n with h0 | h0
  · subst h0
    obtain rfl : l = [] := List.eq_nil_of_length_eq_zero hn
    clear h hn hc hA hm
    go_enter Tryz.func177, Tryz.ntmps177
    go_wp2_with (go_at_call 185; refine (Tryz.slices_Index_string_empty _ _ _ _).mono ?_; rintro e w' ⟨rfl, rfl⟩)
    go_ret
    exact ⟨rfl, rfl⟩
  · obtain ⟨b, off, rfl, hb, hcell⟩ := hA h0
    have H := Lib.hid (Tryz.slices_Index_string b off n c l s w (by omega) (by omega) (fun j hj => by
      obtain ⟨x, hx⟩ := get_some hj
      rw [hcell j x hx, getD_of hx]))
    have HN := Lib.hid hn
    clear h hn hc hA hm hcell
    go_enter Tryz.func177, Tryz.ntmps177
    go_wp2_with (go_at_call 185; refine H.out.mono ?_; rintro e w' ⟨rfl, rfl⟩)
    go_ret
    exact ⟨ret_int (by rw [← HN.out, List.take_of_length_le (Nat.le_refl _)]), rfl⟩

def BoolQuiet (W : World) (b : Bool) (e : Ending) (w' : World) : Prop := e = .returned (.bool b) ∧ ∃ q, w' = W.drewN q
theorem BoolQuiet.below {W : World} {b : Bool} {e : Ending} {w' : World} (h : BoolQuiet W b e w') : e = .returned (.bool b) ∧ Below W.heap.size W w' := by
  obtain ⟨rfl, q, rfl⟩ := h
  exact ⟨rfl, below_drewN (Below.refl _ _) q⟩
end Go.Proofs.YtcfcpbkeedfbpaaGreatDoor

namespace Go.Proofs.YtcfcpbkeedfbpaaGreatDoor
namespace TermSpec
open NamesSpec

structure Tm where
  op : Int
  n : Int
  s : ByteArray

/-- How many expressions are below a term that does that. -/
def ar (o : Int) : Int :=
  if o = 1 ∨ o = 2 ∨ o = 9 ∨ o = 10 ∨ o = 11 then 0 else if o = 3 ∨ o = 12 then 1 else if o = 4 ∨ o = 5 ∨ o = 6 ∨ o = 7 ∨ o = 8 ∨ o = 13 ∨ o = 14 ∨ o = 15 ∨ o = 16 ∨ o = 17 ∨ o = 18 ∨ o = 19 ∨ o = 20 then 2 else -1
def arN (o : Int) : Nat := (ar o).toNat
theorem ar_bd (o : Int) : -1 ≤ ar o ∧ ar o ≤ 2 := by unfold ar; (repeat' split) <;> omega
theorem arN_of {o : Int} (h : 0 ≤ ar o) : (arN o : Int) = ar o := by unfold arN; omega
theorem ar_out {o : Int} (h : o < 1 ∨ 20 < o) : ar o = -1 := by unfold ar; rw [if_neg (by omega), if_neg (by omega), if_neg (by omega)]
/-- The place behind k expressions that begin here; the place here is p. -/
def fin : Nat → List Tm → Nat → Int
  | 0, _, p => p
  | _ + 1, [], _ => -1
  | k + 1, t :: r, p => if ar t.op < 0 then -1 else fin (k + arN t.op) r (p + 1)
/-- How many terms k expressions take. -/
def cnt : Nat → List Tm → Option Nat
  | 0, _ => some 0
  | _ + 1, [] => none
  | k + 1, t :: r => if ar t.op < 0 then none else (cnt (k + arN t.op) r).map (· + 1)

theorem cnt_zero (l : List Tm) : cnt 0 l = some 0 := by cases l <;> rfl
theorem fin_zero (l : List Tm) (p : Nat) : fin 0 l p = p := by cases l <;> rfl
theorem cnt_cons (k : Nat) (t : Tm) (r : List Tm) : cnt (k + 1) (t :: r) = if ar t.op < 0 then none else (cnt (k + arN t.op) r).map (· + 1) := rfl
theorem fin_cons (k : Nat) (t : Tm) (r : List Tm) (p : Nat) : fin (k + 1) (t :: r) p = if ar t.op < 0 then -1 else fin (k + arN t.op) r (p + 1) := rfl
theorem cnt_step {k m : Nat} {t : Tm} {r : List Tm} (h : cnt (k + 1) (t :: r) = some m) : 0 ≤ ar t.op ∧ ∃ m', m = m' + 1 ∧ cnt (k + arN t.op) r = some m' := by
  rw [cnt_cons] at h
  split at h
  · cases h
  · cases hc : cnt (k + arN t.op) r with
    | none => rw [hc] at h; cases h
    | some m' => rw [hc] at h; cases h; exact ⟨by omega, m', rfl, rfl⟩
theorem cnt_mk {k m : Nat} {t : Tm} {r : List Tm} (h0 : 0 ≤ ar t.op) (h : cnt (k + arN t.op) r = some m) : cnt (k + 1) (t :: r) = some (m + 1) := by
  rw [cnt_cons, if_neg (by omega), h]; rfl
theorem fin_some : ∀ {l : List Tm} {k m p : Nat}, cnt k l = some m → fin k l p = (p + m : Nat)
  | l, 0, m, p, h => by rw [cnt_zero] at h; cases h; rw [fin_zero]; rfl
  | [], k + 1, m, p, h => by cases h
  | t :: r, k + 1, m, p, h => by
    obtain ⟨h0, m', rfl, h'⟩ := cnt_step h
    rw [fin_cons, if_neg (by omega), fin_some h']
    omega
theorem fin_none : ∀ {l : List Tm} {k p : Nat}, cnt k l = none → fin k l p = -1
  | l, 0, p, h => by rw [cnt_zero] at h; cases h
  | [], k + 1, p, h => rfl
  | t :: r, k + 1, p, h => by
    rw [fin_cons]
    split
    · rfl
    · rename_i h0
      refine fin_none ?_
      rw [cnt_cons, if_neg h0] at h
      simpa using h
theorem cnt_le : ∀ {l : List Tm} {k m : Nat}, cnt k l = some m → m ≤ l.length ∧ k ≤ m
  | l, 0, m, h => by rw [cnt_zero] at h; cases h; exact ⟨Nat.zero_le _, Nat.le_refl _⟩
  | [], k + 1, m, h => by cases h
  | t :: r, k + 1, m, h => by
    obtain ⟨h0, m', rfl, h'⟩ := cnt_step h
    have := cnt_le h'
    simp only [List.length_cons]
    omega
theorem cnt_add : ∀ (l : List Tm) (a b : Nat), cnt (a + b) l = (cnt a l).bind fun m => (cnt b (l.drop m)).map (m + ·)
  | l, 0, b => by rw [cnt_zero, Nat.zero_add]; simp
  | [], a + 1, b => by rw [show a + 1 + b = (a + b) + 1 by omega]; rfl
  | t :: r, a + 1, b => by
    rw [show a + 1 + b = (a + b) + 1 by omega, cnt_cons, cnt_cons]
    split
    · rfl
    · rw [show a + b + arN t.op = a + arN t.op + b by omega, cnt_add r (a + arN t.op) b]
      cases cnt (a + arN t.op) r with
      | none => rfl
      | some m =>
        simp only [Option.map_some, Option.bind_some, List.drop_succ_cons, Option.map_map]
        congr 1
        funext x
        simp only [Function.comp]
        omega
theorem cnt_split {l : List Tm} {a b m : Nat} (h : cnt (a + b) l = some m) : ∃ x y, cnt a l = some x ∧ cnt b (l.drop x) = some y ∧ m = x + y := by
  rw [cnt_add] at h
  cases ha : cnt a l with
  | none => rw [ha] at h; cases h
  | some x =>
    rw [ha] at h
    simp only [Option.bind_some] at h
    cases hb : cnt b (l.drop x) with
    | none => rw [hb] at h; cases h
    | some y => rw [hb] at h; cases h; exact ⟨x, y, rfl, hb, rfl⟩
theorem cnt_join {l : List Tm} {a b x y : Nat} (h : cnt a l = some x) (h' : cnt b (l.drop x) = some y) : cnt (a + b) l = some (x + y) := by
  rw [cnt_add, h, Option.bind_some, h']; rfl
theorem cnt_stop {l : List Tm} {a b x : Nat} (h : cnt a l = some x) (h' : cnt b (l.drop x) = none) : cnt (a + b) l = none := by
  rw [cnt_add, h, Option.bind_some, h']; rfl
theorem cnt_none {l : List Tm} {a : Nat} (h : cnt a l = none) (b : Nat) : cnt (a + b) l = none := by rw [cnt_add, h]; rfl
/-- What is told of each of the expressions that stand one behind the other, by what is told of those below. -/
def stack {α : Type} (f : Int → List α → α) : List Tm → List α
  | [] => []
  | t :: r => f t.op ((stack f r).take (arN t.op)) :: (stack f r).drop (arN t.op)
section
variable {α : Type} {f : Int → List α → α}
theorem stack_cons (t : Tm) (r : List Tm) : stack f (t :: r) = f t.op ((stack f r).take (arN t.op)) :: (stack f r).drop (arN t.op) := rfl
theorem stack_drop : ∀ {l : List Tm} {k m : Nat}, cnt k l = some m → stack f (l.drop m) = (stack f l).drop k
  | l, 0, m, h => by rw [cnt_zero] at h; cases h; rfl
  | [], k + 1, m, h => by cases h
  | t :: r, k + 1, m, h => by
    obtain ⟨h0, m', rfl, h'⟩ := cnt_step h
    rw [List.drop_succ_cons, stack_drop h', stack_cons, List.drop_succ_cons, List.drop_drop, Nat.add_comm]
theorem stack_len : ∀ {l : List Tm} {k m : Nat}, cnt k l = some m → k ≤ (stack f l).length
  | l, 0, m, h => Nat.zero_le _
  | [], k + 1, m, h => by cases h
  | t :: r, k + 1, m, h => by
    obtain ⟨h0, m', rfl, h'⟩ := cnt_step h
    have := stack_len h'
    rw [stack_cons, List.length_cons, List.length_drop]
    omega
end

/-- What the expression that begins here comes to. -/
def come (f : Int → List Int → Int) (l : List Tm) : Int := (stack f l).headD 0
section
variable {f : Int → List Int → Int}
theorem come_cons (t : Tm) (r : List Tm) : come f (t :: r) = f t.op ((stack f r).take (arN t.op)) := rfl
/-- The k-th of those that stand one behind the other. -/
theorem stack_get {l : List Tm} {k m : Nat} (h : cnt (k + 1) l = some m) : ∃ x, cnt k l = some x ∧ (stack f l)[k]? = some (come f (l.drop x)) := by
  obtain ⟨x, y, hx, hy, _⟩ := cnt_split h
  refine ⟨x, hx, ?_⟩
  have h1 := stack_len (f := f) h
  rw [come, stack_drop hx]
  have h2 : k < (stack f l).length := by omega
  rw [List.getElem?_eq_getElem h2, List.drop_eq_getElem_cons h2]
  rfl
theorem stack_take_next {l : List Tm} {k m x : Nat} (h : cnt (k + 1) l = some m) (hx : cnt k l = some x) : (stack f l).take (k + 1) = (stack f l).take k ++ [come f (l.drop x)] := by
  obtain ⟨x', hx', hg⟩ := stack_get (f := f) h
  rw [hx] at hx'
  cases hx'
  exact take_next hg
end

/-- Where those below the term at a place begin. -/
def belows (l : List Tm) (at_ k : Nat) : List Int := (List.range k).map fun i => ((at_ + 1 + (cnt i (l.drop (at_ + 1))).getD 0 : Nat) : Int)
theorem belows_length (l : List Tm) (a k : Nat) : (belows l a k).length = k := by simp [belows]
theorem belows_get {l : List Tm} {a k i : Nat} (h : i < k) : (belows l a k)[i]? = some ((a + 1 + (cnt i (l.drop (a + 1))).getD 0 : Nat) : Int) := by
  simp [belows, h]
theorem belows_zero (l : List Tm) (a : Nat) : belows l a 0 = [] := rfl
theorem belows_next (l : List Tm) (a k : Nat) : belows l a (k + 1) = belows l a k ++ [((a + 1 + (cnt k (l.drop (a + 1))).getD 0 : Nat) : Int)] := by
  unfold belows
  rw [List.range_succ, List.map_append]
  rfl

/-- The place behind the expression at a place. -/
def endA (l : List Tm) (a : Int) : Int := if a < 0 then -1 else fin 1 (l.drop a.toNat) a.toNat
theorem endA_neg {l : List Tm} {a : Int} (h : a < 0) : endA l a = -1 := if_pos h
theorem endA_nat (l : List Tm) (a : Nat) : endA l a = fin 1 (l.drop a) a := by unfold endA; rw [if_neg (by omega)]; rfl
theorem endA_out {l : List Tm} {a : Int} (h : (l.length : Int) ≤ a) : endA l a = -1 := by
  unfold endA
  rw [if_neg (by omega), List.drop_eq_nil_of_le (by omega)]
  rfl
theorem drop_get {l : List Tm} {a : Nat} {t : Tm} (h : l[a]? = some t) : l.drop a = t :: l.drop (a + 1) := by
  obtain ⟨ha, rfl⟩ := List.getElem?_eq_some_iff.1 h
  exact List.drop_eq_getElem_cons ha
theorem endA_bad {l : List Tm} {a : Nat} {t : Tm} (h : l[a]? = some t) (h0 : ar t.op < 0) : endA l a = -1 := by
  rw [endA_nat, drop_get h, fin_cons, if_pos h0]
theorem endA_at {l : List Tm} {a : Nat} {t : Tm} (h : l[a]? = some t) (h0 : 0 ≤ ar t.op) : endA l a = fin (arN t.op) (l.drop (a + 1)) (a + 1) := by
  rw [endA_nat, drop_get h, fin_cons, if_neg (by omega), Nat.zero_add]
theorem endA_some {l : List Tm} {a m : Nat} (h : cnt 1 (l.drop a) = some m) : endA l a = (a + m : Nat) := by rw [endA_nat, fin_some h]
theorem endA_none {l : List Tm} {a : Nat} (h : cnt 1 (l.drop a) = none) : endA l a = -1 := by rw [endA_nat, fin_none h]
theorem endA_nn {l : List Tm} {a : Int} (h : 0 ≤ endA l a) : ∃ k m : Nat, a = k ∧ cnt 1 (l.drop k) = some m ∧ endA l a = (k + m : Nat) ∧ 0 < m ∧ k + m ≤ l.length := by
  by_cases h0 : a < 0
  · rw [endA_neg h0] at h; omega
  · obtain ⟨k, rfl⟩ := Int.eq_ofNat_of_zero_le (Int.not_lt.1 h0)
    cases hc : cnt 1 (l.drop k) with
    | none => rw [show ((k : Nat) : Int) = (k : Int) from rfl, endA_none hc] at h; omega
    | some m =>
      have := cnt_le hc
      rw [List.length_drop] at this
      exact ⟨k, m, rfl, hc, endA_some hc, by omega, by omega⟩
theorem first_of {l : List Tm} {a m : Nat} (h : cnt 1 (l.drop a) = some m) : ∃ t m', l[a]? = some t ∧ 0 ≤ ar t.op ∧ m = m' + 1 ∧ cnt (arN t.op) (l.drop (a + 1)) = some m' := by
  cases hd : l.drop a with
  | nil => rw [hd] at h; cases h
  | cons t r =>
    have ha : a < l.length := by
      rcases Nat.lt_or_ge a l.length with h | h
      · exact h
      · rw [List.drop_eq_nil_of_le h] at hd; cases hd
    rw [List.drop_eq_getElem_cons ha] at hd
    injection hd with h1 h2
    subst h1; subst h2
    rw [List.drop_eq_getElem_cons ha] at h
    obtain ⟨h0, m', rfl, h'⟩ := cnt_step h
    exact ⟨_, m', List.getElem?_eq_getElem ha, h0, rfl, by rwa [Nat.zero_add] at h'⟩

/-- The deepest of some; a term's depth. -/
def deepest (bs : List Int) : Int := bs.foldl (fun a b => if a < b then b else a) 0
theorem deepest_snoc (bs : List Int) (d : Int) : deepest (bs ++ [d]) = if deepest bs < d then d else deepest bs := by unfold deepest; rw [List.foldl_append]; rfl
def depF (_ : Int) (bs : List Int) : Int := deepest bs + 1
theorem deepest_bd {B : Int} (hB : 0 ≤ B) (bs : List Int) (h : ∀ b ∈ bs, b ≤ B) : 0 ≤ deepest bs ∧ deepest bs ≤ B := by
  unfold deepest
  have key : ∀ (bs : List Int) (a : Int), 0 ≤ a → a ≤ B → (∀ b ∈ bs, b ≤ B) → 0 ≤ bs.foldl (fun a b => if a < b then b else a) a ∧ bs.foldl (fun a b => if a < b then b else a) a ≤ B := by
    intro bs
    induction bs with
    | nil => intro a h0 h1 _; exact ⟨h0, h1⟩
    | cons b t ih =>
      intro a h0 h1 h2
      have hb := h2 b (by simp)
      rw [List.foldl_cons]
      refine ih _ ?_ ?_ (fun c hc => h2 c (by simp [hc]))
      · split <;> omega
      · split <;> omega
  exact key bs 0 (Int.le_refl 0) hB h
theorem stack_depth : ∀ (l : List Tm), ∀ d ∈ stack depF l, 1 ≤ d ∧ d ≤ l.length
  | [] => by simp [stack]
  | t :: r => by
    intro d hd
    have ih := stack_depth r
    rw [stack_cons, List.mem_cons] at hd
    rw [List.length_cons]
    rcases hd with rfl | hd
    · have := deepest_bd (B := r.length) (by omega) ((stack depF r).take (arN t.op)) (fun b hb => (ih b (List.mem_of_mem_take hb)).2)
      have e : depF t.op ((stack depF r).take (arN t.op)) = deepest ((stack depF r).take (arN t.op)) + 1 := rfl
      omega
    · have := ih d (List.mem_of_mem_drop hd)
      omega
theorem come_depth {l : List Tm} {m : Nat} (h : cnt 1 l = some m) : 1 ≤ come depF l ∧ come depF l ≤ l.length := by
  have h1 := stack_len (f := depF) h
  cases hs : stack depF l with
  | nil => rw [hs] at h1; simp at h1
  | cons d t =>
    have := stack_depth l d (by rw [hs]; simp)
    rw [come, hs]
    exact this

/-- The type of a term, and the one of which those below it must be. -/
def ownT (o : Int) : Int := if o = 1 ∨ o = 2 ∨ o = 3 ∨ o = 4 ∨ o = 5 ∨ o = 6 ∨ o = 7 ∨ o = 8 then 1 else 2
def askT (o : Int) : Int := if o = 1 ∨ o = 2 ∨ o = 3 ∨ o = 4 ∨ o = 5 ∨ o = 6 ∨ o = 7 ∨ o = 8 ∨ o = 13 ∨ o = 14 ∨ o = 15 ∨ o = 16 ∨ o = 17 ∨ o = 18 then 1 else 2
def typF (o : Int) (bs : List Int) : Int := if bs.all (fun b => decide (b = askT o)) then ownT o else 0

/-- Just one expression, of no more terms than may be. -/
def wholeB (l : List Tm) : Bool := decide (l.length ≤ 40) && decide (cnt 1 l = some l.length)
theorem wholeB_iff {l : List Tm} : wholeB l = true ↔ l.length ≤ 40 ∧ cnt 1 l = some l.length := by simp [wholeB]
def tell (f : Int → List Int → Int) (l : List Tm) : Int := if wholeB l then come f l else 0
def depth (l : List Tm) : Int := tell depF l
def typ (l : List Tm) : Int := tell typF l
theorem depth_zero {l : List Tm} : (depth l = 0) ↔ wholeB l = false := by
  unfold depth tell
  cases h : wholeB l with
  | false => simp
  | true =>
    have := come_depth (wholeB_iff.1 h).2
    simp
    omega

/-- A term of an expression may be. -/
def mayB (t : Tm) : Bool :=
  (if t.op = 1 then decide (0 ≤ t.n) && decide (t.n ≤ 1000000) else decide (t.n = 0)) && (if t.op = 2 ∨ t.op = 11 then isName t.s.data.toList else decide (t.s.size = 0))
/-- Why terms are no expression. -/
def chk (l : List Tm) : Int :=
  if 40 < l.length then 8 else if wholeB l = false then 1 else if l.all mayB = false then 1 else if 12 < depth l then 6 else 0
theorem chk_ok {l : List Tm} (h : chk l = 0) : wholeB l = true ∧ l.all mayB = true ∧ depth l ≤ 12 := by
  unfold chk at h
  split at h
  · omega
  split at h
  · omega
  rename_i h1
  split at h
  · omega
  rename_i h2
  split at h
  · omega
  rename_i h3
  exact ⟨by simpa using h1, by simpa using h2, by omega⟩
/-- The names of all terms that do that. -/
def namesOf (l : List Tm) (o : Int) : List ByteArray := (l.filter fun t => decide (t.op = o)).map (·.s)
theorem namesOf_yes {l : List Tm} {o : Int} {k : Nat} {t : Tm} (h : l[k]? = some t) (he : t.op = o) : namesOf (l.take (k + 1)) o = namesOf (l.take k) o ++ [t.s] := by
  unfold namesOf; rw [take_next h, List.filter_append, List.map_append]; simp [he]
theorem namesOf_no {l : List Tm} {o : Int} {k : Nat} {t : Tm} (h : l[k]? = some t) (he : t.op ≠ o) : namesOf (l.take (k + 1)) o = namesOf (l.take k) o := by
  unfold namesOf; rw [take_next h, List.filter_append, List.map_append]; simp [he]
theorem namesOf_length (l : List Tm) (o : Int) : (namesOf l o).length ≤ l.length := by
  unfold namesOf; rw [List.length_map]; exact List.length_filter_le _ _

end TermSpec
end Go.Proofs.YtcfcpbkeedfbpaaGreatDoor

namespace Go.Proofs.YtcfcpbkeedfbpaaGreatDoor
open Go.RowKit TermSpec
set_option maxRecDepth 100000

def tmV (t : Tm) : List Value := [.int .i64 t.op, .int .i64 t.n, .string t.s]
def tmsV (l : List Tm) : List Value := l.flatMap tmV
theorem tmV_length (t : Tm) : (tmV t).length = 3 := rfl
theorem tmsV_length (l : List Tm) : (tmsV l).length = l.length * 3 := flat_length tmV_length l
theorem tmV_one (t : Tm) : ∀ u ∈ tmV t, u.oneCell' = true := by simp [tmV, Value.oneCell']
theorem tmsV_one (l : List Tm) : ∀ u ∈ tmsV l, u.oneCell' = true := by
  intro u hu
  obtain ⟨t, _, h⟩ := List.mem_flatMap.1 hu
  exact tmV_one t u h
theorem tmsV_get {l : List Tm} {i : Nat} {t : Tm} (h : l[i]? = some t) : (tmsV l)[i * 3]? = some (.int .i64 t.op) ∧ (tmsV l)[i * 3 + 1]? = some (.int .i64 t.n) ∧ (tmsV l)[i * 3 + 2]? = some (.string t.s) :=
  ⟨flat_get (j := 0) tmV_length h (by omega), flat_get (j := 1) tmV_length h (by omega), flat_get (j := 2) tmV_length h (by omega)⟩

/-- The value is a slice of these terms. -/
def Tms (w : World) (v : Value) (l : List Tm) : Prop := ∃ n, n = l.length ∧ Rdk 3 w v n (tmsV l)
theorem Tms.keep {w w' : World} {v : Value} {l : List Tm} (h : Tms w v l) (hb : Below w.heap.size w w') : Tms w' v l := by
  obtain ⟨n, hn, h⟩ := h
  exact ⟨n, hn, h.keep hb⟩
theorem Tms.alloc {w : World} {v : Value} {l : List Tm} (h : Tms w v l) (o : Obj) : Tms (w.alloc o) v l := h.keep ((Below.refl _ _).alloc (Nat.le_refl _) _)
theorem Tms.shape {w : World} {v : Value} {l : List Tm} (h : Tms w v l) : ∃ A n c, v = .slice A n c ∧ n = l.length ∧ n ≤ c := by
  obtain ⟨n, hn, A, c, hv, hc, _⟩ := h
  exact ⟨A, n, c, hv, hn, hc⟩
theorem Tms.cap {w : World} {A : Option Addr} {n c : Nat} {l : List Tm} (h : Tms w (.slice A n c) l) : n ≤ c := by
  obtain ⟨A', n', c', heq, _, hc⟩ := h.shape
  cases heq
  exact hc
/-- The cells of the i-th term. -/
theorem Tms.at_ {w : World} {A : Option Addr} {n c : Nat} {l : List Tm} {i : Nat} {t : Tm} (h : Tms w (.slice A n c) l) (hi : l[i]? = some t) :
    ∃ b off, A = some ⟨b, off, none⟩ ∧ b < w.heap.size ∧ w.cell? ⟨b, off + i * 3, none⟩ = some (.int .i64 t.op) ∧ w.cell? ⟨b, off + i * 3 + 1, none⟩ = some (.int .i64 t.n) ∧ w.cell? ⟨b, off + i * 3 + 2, none⟩ = some (.string t.s) := by
  obtain ⟨m, hm, A', c', heq, hc, hl, hA⟩ := h
  cases heq
  have := get_lt hi
  obtain ⟨b, off, rfl, hb, hcell⟩ := hA (by omega)
  obtain ⟨g0, g1, g2⟩ := tmsV_get hi
  exact ⟨b, off, rfl, hb, hcell _ _ g0, by rw [Nat.add_assoc]; exact hcell _ _ g1, by rw [Nat.add_assoc]; exact hcell _ _ g2⟩
theorem tms_drop {l : List Tm} {k : Nat} : tmsV (l.drop k) = (tmsV l).drop (k * 3) := by
  induction l generalizing k with
  | nil => simp [tmsV]
  | cons t r ih =>
    cases k with
    | zero => simp
    | succ k =>
      rw [List.drop_succ_cons, ih, show tmsV (t :: r) = tmV t ++ tmsV r from List.flatMap_cons .., show (k + 1) * 3 = 3 + k * 3 by omega, ← List.drop_drop]
      rfl
theorem tms_take {l : List Tm} {k : Nat} : tmsV (l.take k) = (tmsV l).take (k * 3) := by
  induction l generalizing k with
  | nil => simp [tmsV]
  | cons t r ih =>
    cases k with
    | zero => simp [tmsV]
    | succ k =>
      rw [List.take_succ_cons, show tmsV (t :: r.take k) = tmV t ++ tmsV (r.take k) from List.flatMap_cons .., ih, show tmsV (t :: r) = tmV t ++ tmsV r from List.flatMap_cons .., show (k + 1) * 3 = 3 + k * 3 by omega, List.take_append, tmV_length]
      rw [show (tmV t).take (3 + k * 3) = tmV t from List.take_of_length_le (by rw [tmV_length]; omega), Nat.add_sub_cancel_left]

/-- A literal slice just made; its block's number as the walk spells it. -/
theorem lit_here {w : World} {cs : Array Value} {xs : List Value} {e : TypeId} {n k : Nat} (hk : k = w.heap.size) (hn : n = xs.length) (hx : cs.toList = xs) : Rd (w.alloc (.cells cs e)) (.slice (some ⟨k, 0, none⟩) n n) xs := by
  subst hk; subst hx
  exact Rd.lit (by simpa using hn)
theorem tms_lit {w : World} {cs : Array Value} {l : List Tm} {e : TypeId} {n k : Nat} (hk : k = w.heap.size) (hn : n = l.length) (hx : cs.toList = tmsV l) : Tms (w.alloc (.cells cs e)) (.slice (some ⟨k, 0, none⟩) n n) l := by
  subst hk
  refine ⟨n, hn, _, n, rfl, Nat.le_refl _, by rw [tmsV_length, hn], fun _ => ⟨w.heap.size, 0, rfl, by simp, fun j u hj => ?_⟩⟩
  rw [← hx, Array.getElem?_toList] at hj
  rw [World.cell?_alloc_at _ _ _ _ rfl]
  simpa using hj
/-- A part of a slice of terms. -/
theorem Tms.part {w : World} {b off n c c' i j : Nat} {l : List Tm} (h : Tms w (.slice (some ⟨b, off, none⟩) n c) l) (hij : i ≤ j) (hj : j ≤ n) (hc : j - i ≤ c') : Tms w (.slice (some ⟨b, off + i * 3, none⟩) (j - i) c') ((l.drop i).take (j - i)) := by
  obtain ⟨m, hm, A', c2, heq, hcm, hl, hA⟩ := h
  cases heq
  refine ⟨j - i, by rw [List.length_take, List.length_drop]; omega, _, c', rfl, hc, by rw [tmsV_length, List.length_take, List.length_drop]; rw [show min (j - i) (l.length - i) = j - i by omega], fun h0 => ?_⟩
  obtain ⟨b', off', heq, hb, hcell⟩ := hA (by omega)
  cases heq
  refine ⟨b, off + i * 3, rfl, hb, fun q u hq => ?_⟩
  rw [tms_take, tms_drop] at hq
  have hq1 : q < (j - i) * 3 := by have := (List.getElem?_eq_some_iff.1 hq).1; rw [List.length_take] at this; omega
  rw [List.getElem?_take_of_lt hq1, List.getElem?_drop] at hq
  rw [Nat.add_assoc]
  exact hcell _ _ hq

theorem elem_tms : Tryz.prog.elem 64 = 68 := by kernel_rfl
/-- Names no longer than memory holds. -/
def Small (l : List Tm) : Prop := ∀ t ∈ l, t.s.size ≤ 9223372036854775807
def RetI (W : World) (n : Int) (e : Ending) (w' : World) : Prop := e = .returned (.int .i64 n) ∧ Below W.heap.size W w'
def RetB (W : World) (b : Bool) (e : Ending) (w' : World) : Prop := e = .returned (.bool b) ∧ Below W.heap.size W w'
def SameI (W : World) (n : Int) (e : Ending) (w' : World) : Prop := e = .returned (.int .i64 n) ∧ W = w'
def SameB (W : World) (b : Bool) (e : Ending) (w' : World) : Prop := e = .returned (.bool b) ∧ W = w'
end Go.Proofs.YtcfcpbkeedfbpaaGreatDoor
