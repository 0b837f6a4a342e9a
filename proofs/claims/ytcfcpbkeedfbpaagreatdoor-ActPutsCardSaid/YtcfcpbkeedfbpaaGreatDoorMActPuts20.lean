/- ActScan, EvalLight, ActLight, ActPutsLaw, Laid, ScanLaid, ExprLaid, OpenN, OpenD, TermOpen, EvalOpen, joined. -/
import Derived.Test.YtcfcpbkeedfbpaaGreatDoorMActPuts11
import Derived.Test.YtcfcpbkeedfbpaaGreatDoorMActPuts13
import Derived.Test.YtcfcpbkeedfbpaaGreatDoorMActPuts19
import Derived.Test.YtcfcpbkeedfbpaaGreatDoorMActPuts04
import Derived.Test.YtcfcpbkeedfbpaaGreatDoorMActPuts03
import Derived.Test.YtcfcpbkeedfbpaaGreatDoorMActPuts14
import Derived.Test.YtcfcpbkeedfbpaaGreatDoorMActPuts16
import Derived.Test.YtcfcpbkeedfbpaaGreatDoorMActPuts12
import Derived.LaidLaws
import Derived.ChangeArms
import Derived.Lib.LaidTab
import Derived.OpenShut
import Derived.Test.YtcfcpbkeedfbpaaGreatDoorMActPuts00
import Derived.Test.YtcfcpbkeedfbpaaGreatDoorMActPuts18
import Derived.LaidMore
import Derived.Stop.Joined
import Derived.Test.YtcfcpbkeedfbpaaGreatDoorMActPuts10
import Derived.Stop.LaidErr
import Derived.ProofKit
import Derived.Deep.Slices
import Derived.Test.YtcfcpbkeedfbpaaGreatDoorRows
import Derived.Lib.SmallJoins
import Derived.Test.YtcfcpbkeedfbpaaGreatDoorMActPuts01
namespace Go.Proofs.YtcfcpbkeedfbpaaGreatDoor
namespace ActSpec
open CurSpec TermSpec EvalSpec NamesSpec ExprSpec ScanSpec

/-- An act's tokens. -/
def tkA (t : Ta) : List Tx := if t.any then [(1, [97, 110, 121]), (1, T t.s)] else (1, T t.s) :: (3, [58, 61]) :: tk t.e
def tkL : List Ta → List Tx
  | [] => []
  | [t] => tkA t
  | t :: u :: r => tkA t ++ (3, [44]) :: tkL (u :: r)
theorem txA_any {t : Ta} (h : t.any = true) : T (txA t) = [97, 110, 121] ++ ([32] ++ T t.s) := by
  unfold txA
  rw [if_pos h, T, bytes_app]
  rfl
theorem txA_set {t : Ta} (h : t.any = false) : T (txA t) = T t.s ++ ([32] ++ ([58, 61] ++ ([32] ++ T (tx t.e)))) := by
  unfold txA
  rw [if_neg (by rw [h]; decide), T, bytes_app, bytes_app]
  simp
theorem txA_fst {t : Ta} (h : t.Ok) : Fst (T (txA t)) := by
  rcases ha : t.any with _ | _
  · rw [txA_set ha]
    obtain ⟨a, q, hs, hc, _⟩ := name_parts h.1
    rw [show T t.s = a :: q from hs]
    exact ⟨a, _, rfl, sol_1 a (.inl hc)⟩
  · rw [txA_any ha]
    exact ⟨97, _, rfl, by decide⟩
theorem one_set (r : List UInt8) : ScanSpec.one ([58, 61] ++ r) = (3, [(58 : UInt8), 61].length, 0) := ExprSpec.one_mark rfl (by decide) (by simp [markLen, marks, List.isPrefixOf])
theorem scs_act {t : Ta} (h : t.Ok) : Scs (txA t) (tkA t) := by
  intro l i r hd hr
  unfold tkA
  have hn := name_parts h.1
  rcases ha : t.any with _ | _
  · rw [txA_set ha] at hd ⊢
    rw [if_neg (by decide)]
    obtain ⟨hg, -⟩ := h.2 ha
    obtain ⟨c, q, hc, hsol⟩ := tx_fst hg
    have h0 : l.drop i = T t.s ++ ([32] ++ ([58, 61] ++ ([32] ++ (T (tx t.e) ++ r)))) := by rw [hd]; simp
    have h1 := drop_past h0
    have h2 := drop_past h1
    have h3 := drop_past h2
    have h4 := drop_past h3
    have s0 := sc_word h0 hn (stop_32 _)
    rw [gap_one' (c := 58) (r := [61] ++ ([32] ++ (T (tx t.e) ++ r))) h1 (by decide) (by decide)] at s0
    have s1 := sc_one h2 (by decide) (one_set _)
    rw [gap_one (c := c) (r := q ++ r) (by rw [h3, hc]; rfl) hsol] at s1
    have s2 := scs_all t.e hg _ _ _ h4 hr
    have := sc_app s0 (sc_app s1 s2)
    rwa [show i + (T t.s).length + [(32 : UInt8)].length + [(58 : UInt8), 61].length + [(32 : UInt8)].length + (T (tx t.e)).length = i + (T t.s ++ ([32] ++ ([58, 61] ++ ([32] ++ T (tx t.e))))).length by simp; omega] at this
  · rw [txA_any ha] at hd ⊢
    rw [if_pos rfl]
    have h0 : l.drop i = [97, 110, 121] ++ ([32] ++ (T t.s ++ r)) := by rw [hd]; simp
    have h1 := drop_past h0
    have h2 := drop_past h1
    obtain ⟨a, q, hs, hca, hw, hl⟩ := hn
    have s0 := sc_word h0 ⟨97, [110, 121], rfl, by decide, by decide, by decide⟩ (stop_32 _)
    rw [gap_one (c := a) (r := q ++ r) (by rw [h1, show T t.s = a :: q from hs]; rfl) (sol_1 a (.inl hca))] at s0
    have s1 := sc_word h2 ⟨a, q, hs, hca, hw, hl⟩ hr
    have := sc_app s0 s1
    rwa [show i + [(97 : UInt8), 110, 121].length + [(32 : UInt8)].length + (T t.s).length = i + ([97, 110, 121] ++ ([32] ++ T t.s)).length by simp; omega] at this
theorem putT_cons (t u : Ta) (r : List Ta) : putT (t :: u :: r) = T (txA t) ++ ([44] ++ ([32] ++ putT (u :: r))) := by
  unfold putT
  rw [List.map_cons, Lib.join_cons, List.map_cons, Lib.join_cons]
  simp [Lib.joinTail]
theorem putT_one (t : Ta) : putT [t] = T (txA t) := by unfold putT; rw [List.map_cons, List.map_nil, Lib.join_one]
theorem putT_fst {t : Ta} (h : t.Ok) (r : List Ta) : Fst (putT (t :: r)) := by
  cases r with
  | nil => rw [putT_one]; exact txA_fst h
  | cons u r => rw [putT_cons]; exact fst_app (txA_fst h)
theorem sc_acts {l : List UInt8} : ∀ {ts : List Ta} {i : Nat} {r : List UInt8}, ts ≠ [] → (∀ t ∈ ts, t.Ok) → l.drop i = putT ts ++ r → Stop r → Sc l i (tkL ts) (gap l (i + (putT ts).length))
  | [], _, _, h, _, _, _ => absurd rfl h
  | [t], i, r, _, h, hd, hr => by
    rw [putT_one] at hd ⊢
    exact scs_act (h t (by simp)) l i r hd hr
  | t :: u :: q, i, r, _, h, hd, hr => by
    rw [putT_cons] at hd ⊢
    have h0 : l.drop i = T (txA t) ++ ([44] ++ ([32] ++ (putT (u :: q) ++ r))) := by rw [hd]; simp
    have h1 := drop_past h0
    have h2 := drop_past h1
    have h3 := drop_past h2
    obtain ⟨c, z, hc, hsol⟩ := putT_fst (h u (by simp)) q
    have s0 := scs_act (h t (by simp)) l i _ h0 (stop_44 _)
    rw [gap_here (c := 44) h1 (by decide)] at s0
    have s1 := sc_one h1 (by decide) (one_comma _)
    rw [gap_one (c := c) (r := z ++ r) (by rw [h2, hc]; rfl) hsol] at s1
    have s2 := sc_acts (ts := u :: q) (by simp) (fun v hv => h v (by simp only [List.mem_cons] at hv ⊢; exact .inr hv)) h3 hr
    have := sc_app s0 (sc_app s1 s2)
    rwa [show i + (T (txA t)).length + [(44 : UInt8)].length + [(32 : UInt8)].length + (putT (u :: q)).length = i + (T (txA t) ++ ([44] ++ ([32] ++ putT (u :: q)))).length by simp; omega] at this
theorem tkA_len {t : Ta} (h : t.Ok) : (tkA t).length ≤ 242 := by
  unfold tkA
  split
  · simp
  · rename_i ha
    have ha' : t.any = false := by simpa using ha
    have h1 := tk_len (h.2 ha').1
    have h2 := ta_few h ha'
    simp only [List.length_cons]
    omega
theorem tkL_len : ∀ {ts : List Ta}, (∀ t ∈ ts, t.Ok) → (tkL ts).length ≤ 243 * ts.length
  | [], _ => by simp [tkL]
  | [t], h => by have := tkA_len (h t (by simp)); simp only [tkL, List.length_cons, List.length_nil]; omega
  | t :: u :: r, h => by
    have h1 := tkA_len (h t (by simp))
    have h2 := tkL_len (ts := u :: r) (fun v hv => h v (by simp only [List.mem_cons] at hv ⊢; exact .inr hv))
    simp only [tkL, List.length_append, List.length_cons] at h2 ⊢
    omega

/-- What stands behind an act: nothing, or a comma. -/
def Past (c : Cur) : Prop := (next c).k = 0 ∨ ((next c).k = 3 ∧ (next c).t = bs [44])
theorem past_sign {c : Cur} (h : Past c) (L k : Int) : sgn c L k = none := by
  rcases h with h | h
  · exact end_sign h L k
  · refine sgn_none fun s hs => ?_
    have h1 := (sgn_some hs).1
    rw [h.2] at h1
    exact absurd h1 (by rw [show ExprSpec.look (bs [44]) = none by decide]; simp)
theorem rdE_tree {e : Ex} (hg : ExprSpec.Good e) (hk : chk (flat e) = 0) {c : Cur} (h0 : c.bad = 0) (hn : Nx c (tk e)) (hp : Past (onN (tk e).length c)) : rdE c = (onN (tk e).length c, flat e) := by
  have hbad : (onN (tk e).length c).bad = 0 := by rw [onN_bad]; exact h0
  have hq : Qu (lev e) (onN (tk e).length c) := fun s hs => by rw [past_sign hp] at hs; cases hs
  have hR : S (c.L.length + 1) c 1 = (onN (tk e).length c, flat e) := by
    rw [reads_all e hg c _ 1 h0 hn hq (by decide) (lev_pos hg).1 (by decide) (fit_self c)]
    exact C_stop _ _ (past_sign hp _ _)
  unfold rdE readP
  rw [hR]
  dsimp only
  rw [if_pos hbad, hk, fail_zero, if_pos rfl]
theorem bs_T (s : ByteArray) : bs (T s) = s := by apply ByteArray.ext; simp [bs]
theorem name_yes {c : Cur} {s : ByteArray} (h0 : c.bad = 0) (h1 : (next c).k = 1) (h2 : (next c).t = bs (T s)) (hn : isName s.data.toList = true) : nameC c = on c ∧ nameS c = s := by
  rw [bs_T] at h2
  have hb : nameB c = true := by unfold nameB; rw [h2]; simp [h0, h1, hn]
  unfold nameC nameS
  rw [if_pos hb, if_pos hb]
  exact ⟨rfl, h2⟩
theorem oneR_act {t : Ta} (h : t.Ok) {c : Cur} (h0 : c.bad = 0) (hn : Nx c (tkA t)) (hp : Past (onN (tkA t).length c)) : oneR c = (onN (tkA t).length c, t.ac) := by
  have h0' : (on c).bad = 0 := by rw [(on_bad c).1]; exact h0
  rcases ha : t.any with _ | _
  · have hk : tkA t = (1, T t.s) :: (3, [58, 61]) :: tk t.e := by unfold tkA; rw [if_neg (by rw [ha]; decide)]
    rw [hk] at hn hp ⊢
    obtain ⟨hg, hck⟩ := h.2 ha
    obtain ⟨h1, h2, h3, h4, h5⟩ := hn
    obtain ⟨hc, hs⟩ := name_yes h0 h1 h2 h.1
    have hna : ¬ isB c 1 wAny = true := isB_ne (by rw [h2, bs_T]; exact name_ne h.1 (by decide))
    have hw : want (on c) 3 wSet = on (on c) := if_pos (isB_yes' h0' h3 h4)
    have hac : t.ac = ⟨t.s, false, flat t.e⟩ := by unfold Ta.ac; rw [ha]; rfl
    unfold oneR
    rw [if_neg hna, hc, hs, hw, rdE_tree hg hck (c := on (on c)) (by rw [(on_bad _).1]; exact h0') h5 hp, hac]
    rfl
  · have hk : tkA t = [(1, [97, 110, 121]), (1, T t.s)] := by unfold tkA; rw [if_pos ha]
    rw [hk] at hn ⊢
    obtain ⟨h1, h2, h3, h4, -⟩ := hn
    obtain ⟨hc, hs⟩ := name_yes h0' h3 h4 h.1
    have hya : isB c 1 wAny = true := isB_yes' h0 h1 h2
    have hac : t.ac = ⟨t.s, true, []⟩ := by unfold Ta.ac; rw [ha]; rfl
    unfold oneR
    rw [if_pos hya, hc, hs, hac]
    rfl
theorem allR_acts : ∀ {ts : List Ta} {c : Cur} {out : List Ac}, ts ≠ [] → (∀ t ∈ ts, t.Ok) → out.length + ts.length ≤ 8 → c.bad = 0 → Nx c (tkL ts) → (next (onN (tkL ts).length c)).k = 0 → allR c out = (onN (tkL ts).length c, out ++ ts.map Ta.ac)
  | [], _, _, h, _, _, _, _, _ => absurd rfl h
  | [t], c, out, _, h, h8, h0, hn, hp => by
    have h8' : out.length < 8 := by simp only [List.length_cons, List.length_nil] at h8; omega
    have h1 := oneR_act (h t (by simp)) h0 hn (.inl hp)
    have hs : stepR c out = (onN (tkA t).length c, out ++ [t.ac]) := by
      unfold stepR fullR
      rw [if_neg (by omega), h1]
    rw [allR_step, hs, tailR_no (isB_nk (by show (next (onN (tkA t).length c)).k ≠ 3; rw [show (next (onN (tkA t).length c)).k = 0 from hp]; decide))]
    rfl
  | t :: u :: r, c, out, _, h, h8, h0, hn, hp => by
    have h8' : out.length < 8 := by simp only [List.length_cons] at h8; omega
    rw [show tkL (t :: u :: r) = tkA t ++ (3, [44]) :: tkL (u :: r) from rfl] at hn hp ⊢
    rw [nx_app] at hn
    obtain ⟨hn1, hn2, hn3, hn4⟩ := hn
    have h1 := oneR_act (h t (by simp)) h0 hn1 (.inr ⟨hn2, hn3⟩)
    have hbad : (onN (tkA t).length c).bad = 0 := by rw [onN_bad]; exact h0
    have hs : stepR c out = (onN (tkA t).length c, out ++ [t.ac]) := by
      unfold stepR fullR
      rw [if_neg (by omega), h1]
    have hL : ∀ x, onN (tkA t ++ (3, [44]) :: tkL (u :: r)).length x = onN (tkL (u :: r)).length (on (onN (tkA t).length x)) := fun x => by
      rw [List.length_append, List.length_cons, onN_add]
      rfl
    rw [hL] at hp ⊢
    rw [allR_step, hs]
    unfold tailR
    dsimp only
    have hyc : isB (onN (tkA t).length c) 3 wCom = true := isB_yes' hbad hn2 hn3
    rw [if_pos hyc, allR_acts (ts := u :: r) (by simp) (fun v hv => h v (by simp only [List.mem_cons] at hv ⊢; exact .inr hv)) (by rw [List.length_append]; simp only [List.length_cons, List.length_nil] at h8 ⊢; omega) (by rw [(on_bad _).1]; exact hbad) hn4 hp]
    simp
/-- What acts' text is read as. -/
theorem read_put {ts : List Ta} (hne : ts ≠ []) (h : ∀ t ∈ ts, t.Ok) (h8 : ts.length ≤ 8) :
    (scanT (putB ts).data.toList).2.2 = 0 ∧ (readA (cur0 (tkAll (putB ts)))).2 = ts.map Ta.ac ∧ (readA (cur0 (tkAll (putB ts)))).1.bad = 0 ∧ (next (readA (cur0 (tkAll (putB ts)))).1).k = 0 := by
  have hsz := putB_size h
  have htl := tkL_len h
  have hT : T (putB ts) = putT ts := by simp [putB, T]
  have hlen : (T (putB ts)).length = (putB ts).size := rfl
  obtain ⟨t, r, rfl⟩ : ∃ t r, ts = t :: r := by
    cases ts with
    | nil => exact absurd rfl hne
    | cons t r => exact ⟨t, r, rfl⟩
  obtain ⟨ts, hts⟩ : ∃ ts, ts = t :: r := ⟨_, rfl⟩
  obtain ⟨c, q, hc, hsol⟩ := putT_fst (h t (by simp)) r
  rw [← hts] at h h8 hsz htl hT hlen hne hc ⊢
  obtain ⟨p, hp⟩ : ∃ p, p = putB ts := ⟨_, rfl⟩
  rw [← hp] at hsz hT hlen ⊢
  have g0 : gap (T p) 0 = 0 := gap_here (c := c) (r := q) (by rw [hT]; exact hc) hsol
  have hsc := sc_acts (l := T p) (ts := ts) (i := 0) (r := []) hne h (by rw [hT]; simp) stop_nil
  rw [Nat.zero_add, ← hT] at hsc
  have hgl : (T p).length ≤ gap (T p) (T p).length := (gap_bd (Nat.le_refl _)).1
  have hS : scanT (T p) = (toksAt (T p) 0 (tkL ts) ++ [⟨0, gap (T p) (T p).length, 0⟩], 0, 0) := by
    unfold scanT
    rw [if_neg (by omega)]
    unfold scan
    rw [g0, scan_sc (tkL ts) 0 _ _ [] hsc hgl (by omega) (by rw [List.length_nil]; omega)]
    rfl
  have hA : tkAll p = (toksAt (T p) 0 (tkL ts)).map (tokOf p) ++ [tokOf p ⟨0, gap (T p) (T p).length, 0⟩] := by
    unfold tkAll
    rw [hS, List.map_append]
    rfl
  obtain ⟨hn, hL⟩ := nx_toks (tkL ts) 0 _ (cur0 (tkAll p)) _ hsc rfl hA
  have hbad : (onN (tkL ts).length (cur0 (tkAll p))).bad = 0 := by rw [onN_bad]; rfl
  have hend : next (onN (tkL ts).length (cur0 (tkAll p))) = tokOf p ⟨0, gap (T p) (T p).length, 0⟩ := by
    unfold next
    rw [if_pos hbad, hL]
  have hk0 : (next (onN (tkL ts).length (cur0 (tkAll p)))).k = 0 := by rw [hend]; rfl
  have hR := allR_acts (out := []) hne h (by simpa using h8) rfl hn hk0
  have hRA : readA (cur0 (tkAll p)) = (onN (tkL ts).length (cur0 (tkAll p)), ts.map Ta.ac) := by
    unfold readA
    rw [hR, if_pos hbad]
    rfl
  rw [hRA]
  exact ⟨by rw [show p.data.toList = T p from rfl, hS], rfl, hbad, hk0⟩
end ActSpec
end Go.Proofs.YtcfcpbkeedfbpaaGreatDoor

namespace Go.Proofs.YtcfcpbkeedfbpaaGreatDoor
open Go.RowKit TermSpec EvalSpec
set_option maxRecDepth 100000

def shortS (s : ByteArray) : Bool := decide (s.size ≤ 100)
def lightE (e : Ev) (l : List Tm) : Bool := (decide (l.length ≤ 60) && decide (e.vars.length ≤ 20) && decide (e.ins.length ≤ 80)) && (l.all (fun t => shortS t.s) && (e.ins.all shortS && e.vars.all (fun v => shortS v.s)))
theorem all_stop' {α : Type} {f : α → Bool} {l : List α} {k : Nat} {x : α} (h : l[k]? = some x) (hx : f x = false) : l.all f = false := by
  rw [List.all_eq_false]
  exact ⟨x, List.mem_of_getElem? h, by simp [hx]⟩
theorem all_next' {α : Type} {f : α → Bool} {l : List α} {k : Nat} {x : α} (h : l[k]? = some x) (hx : f x = true) (h0 : (l.take k).all f = true) : (l.take (k + 1)).all f = true := by
  rw [take_next h, List.all_append, h0]; simp [hx]
theorem all_end' {α : Type} {f : α → Bool} {l : List α} {k : Nat} (h : l.length ≤ k) (h0 : (l.take k).all f = true) : l.all f = true := by rwa [List.take_of_length_le h] at h0
theorem light_parts {e : Ev} {l : List Tm} (h : lightE e l = true) : l.length ≤ 60 ∧ e.vars.length ≤ 20 ∧ e.ins.length ≤ 80 ∧ (∀ t ∈ l, t.s.size ≤ 100) := by
  unfold lightE at h
  simp only [Bool.and_eq_true, decide_eq_true_eq, List.all_eq_true, shortS] at h
  exact ⟨h.1.1.1, h.1.1.2, h.1.2, h.2.1⟩

theorem light_big (p : EP) (e : Ev) (A : Option Addr) (n c : Nat) (l : List Tm) (hn : n = l.length) (w : World) (he : EnvIn w p e) (hb : 60 < n ∨ 20 < e.vars.length ∨ 80 < e.ins.length) :
    Calls Tryz.prog 21 #[.slice A n c, envV p e] w (RetB w (lightE e l)) := by
  have HR : Hid (lightE e l = false) := Lib.hid (by
    unfold lightE
    rcases hb with h | h | h
    · rw [show decide (l.length ≤ 60) = false by simp; omega]; simp
    · rw [show decide (e.vars.length ≤ 20) = false by simp; omega]; simp
    · rw [show decide (e.ins.length ≤ 80) = false by simp; omega]; simp)
  have hv := he.vars.1
  have hi := he.ins.strs
  obtain ⟨vA, vn, vc, iA, im, ic⟩ := p
  obtain ⟨A', n', c', heq, hi, _, _⟩ := hi
  cases heq
  simp only at hv hi
  obtain ⟨r, hr⟩ : ∃ r, r = lightE e l := ⟨_, rfl⟩
  rw [← hr] at HR ⊢
  have hb' : 60 < (n : Int) ∨ (¬ 60 < (n : Int) ∧ 20 < (vn : Int)) ∨ (¬ 60 < (n : Int) ∧ ¬ 20 < (vn : Int) ∧ 80 < (im : Int)) := by omega
  obtain ⟨vars, v0, v1, v2, v3, ins⟩ := e
  change Calls _ _ #[.slice A n c, .agg #[.slice vA vn vc, .int .i64 v0, .int .i64 v1, .int .i64 v2, .int .i64 v3, .slice iA im ic]] _ _
  clear hr he hb hv hi hn
  rcases hb' with h | ⟨h, h'⟩ | ⟨h, h', h''⟩
  · have g : decide (60 < (n : Int)) = true := by simp; omega
    go_enter Tryz.func21, Tryz.ntmps21
    go_wp2_with fail
    go_ret
    exact ⟨ret_bool HR.out.symm, KitC.below_one _ _⟩
  · have g : decide (60 < (n : Int)) = false := by simp; omega
    have g2 : decide (20 < (vn : Int)) = true := by simp; omega
    go_enter Tryz.func21, Tryz.ntmps21
    go_wp2_with fail
    go_ret
    exact ⟨ret_bool HR.out.symm, KitC.below_one _ _⟩
  · have g : decide (60 < (n : Int)) = false := by simp; omega
    have g2 : decide (20 < (vn : Int)) = false := by simp; omega
    have g3 : decide (80 < (im : Int)) = true := by simp; omega
    go_enter Tryz.func21, Tryz.ntmps21
    go_wp2_with fail
    go_ret
    exact ⟨ret_bool HR.out.symm, KitC.below_one _ _⟩
set_option maxHeartbeats 4000000 in
theorem light_few' (p : EP) (e : Ev) (A : Option Addr) (n c : Nat) (l : List Tm) (hn : n = l.length) (w : World) (h : Tms w (.slice A n c) l) (he : EnvIn w p e) (hb : n ≤ 60 ∧ e.vars.length ≤ 20 ∧ e.ins.length ≤ 80) :
    Calls Tryz.prog 21 #[.slice A n c, envV p e] w (RetB w (lightE e l)) := by
  have HR : Hid (lightE e l = (l.all (fun t => shortS t.s) && (e.ins.all shortS && e.vars.all (fun v => shortS v.s)))) := Lib.hid (by
    unfold lightE
    rw [show decide (l.length ≤ 60) = true by simp; omega, show decide (e.vars.length ≤ 20) = true by simp; omega, show decide (e.ins.length ≤ 80) = true by simp; omega]
    simp)
  have hv := he.vars.1
  have hi := he.ins.strs
  have HT := Lib.hid (h.keep (KitC.below_one w (envO p e)))
  have HV := Lib.hid (he.vars.keep (KitC.below_one w (envO p e)))
  have HI := Lib.hid (he.ins.alloc (envO p e)).strs
  obtain ⟨vA, vn, vc, iA, im, ic⟩ := p
  obtain ⟨A', n', c', heq, hi, _, _⟩ := hi
  cases heq
  simp only at hv hi
  obtain ⟨r, hr⟩ : ∃ r, r = lightE e l := ⟨_, rfl⟩
  rw [← hr] at HR ⊢
  have HN := Lib.hid hn
  have HVN := Lib.hid hv
  have HIN := Lib.hid hi
  obtain ⟨hb1, hb2, hb3⟩ := hb
  have hb2' : vn ≤ 20 := by omega
  have hb3' : im ≤ 80 := by omega
  have g : decide (60 < (n : Int)) = false := by simp; omega
  have g2 : decide (20 < (vn : Int)) = false := by simp; omega
  have g3 : decide (80 < (im : Int)) = false := by simp; omega
  have hcap := h.cap
  obtain ⟨vars, v0, v1, v2, v3, ins⟩ := e
  simp only at HVN HIN HT HV HI HR
  change Calls _ _ #[.slice A n c, .agg #[.slice vA vn vc, .int .i64 v0, .int .i64 v1, .int .i64 v2, .int .i64 v3, .slice iA im ic]] _ _
  obtain ⟨W1, hW1⟩ : ∃ W1, w.alloc (.cells #[.slice vA vn vc, .int .i64 v0, .int .i64 v1, .int .i64 v2, .int .i64 v3, .slice iA im ic] 54) = W1 := ⟨_, rfl⟩
  have hBk := heap_alloc_new w (.cells #[.slice vA vn vc, .int .i64 v0, .int .i64 v1, .int .i64 v2, .int .i64 v3, .slice iA im ic] 54)
  have hBl := KitC.below_one w (.cells #[.slice vA vn vc, .int .i64 v0, .int .i64 v1, .int .i64 v2, .int .i64 v3, .slice iA im ic] 54)
  change Hid (Tms (w.alloc (.cells #[.slice vA vn vc, .int .i64 v0, .int .i64 v1, .int .i64 v2, .int .i64 v3, .slice iA im ic] 54)) _ _) at HT
  change Hid (VarsIn (w.alloc (.cells #[.slice vA vn vc, .int .i64 v0, .int .i64 v1, .int .i64 v2, .int .i64 v3, .slice iA im ic] 54)) _ _ _ _) at HV
  rw [hW1] at HT HV hBk hBl
  have HI' : Hid (0 < im → ∃ b off, iA = some ⟨b, off, none⟩ ∧ b < W1.heap.size ∧ ∀ (j : Nat) (s : ByteArray), ins[j]? = some s → W1.cell? ⟨b, off + j, none⟩ = some (.string s)) := Lib.hid (by
    obtain ⟨A', n', c', heq, _, _, hA⟩ := HI.out
    cases heq
    rw [← hW1]
    exact hA)
  obtain ⟨z0, z1, z2, z3, z4, z5⟩ := cells_6 hBk
  have HBL := Lib.hid hBl
  have HW1 := Lib.hid hW1
  clear HI hr he hn hv hi h hb2 hb3 hBk hBl hW1
  go_enter Tryz.func21, Tryz.ntmps21
  go_wp2_with fail
  rw [HW1.out]
  go_loop [5] (fun i => ∃ k : Nat, k ≤ n ∧ i = .int .i64 k ∧ Hid ((l.take k).all (fun t => shortS t.s) = true)) (fun i => n - (intOf i).toNat)
  case atStart => exact ⟨0, Nat.zero_le _, rfl, Lib.hid rfl⟩
  case round =>
    obtain ⟨k, hk, rfl, HO⟩ := hrel
    by_cases hlt : k < n
    · obtain ⟨t, ht⟩ : ∃ t, l[k]? = some t := get_some (by have := HN.out; omega)
      obtain ⟨b, off, rfl, hb, c0, c1, c2⟩ := HT.out.at_ ht
      have HX := Lib.hid ht
      have hlt' : (k : Int) < n := by omega
      clear ht c0 c1
      by_cases hs : t.s.size ≤ 100
      · have HS : Hid (shortS t.s = true) := Lib.hid (by simp [shortS, hs])
        have gs : ¬ 100 < (t.s.size : Int) := by omega
        go_wp2_with fail
        go_round
        case rel => exact ⟨k + 1, by omega, by go_num, Lib.hid (all_next' HX.out HS.out HO.out)⟩
        case measure => simp [intOf]; omega
      · have HS : Hid (shortS t.s = false) := Lib.hid (by simp [shortS]; omega)
        have gs : 100 < (t.s.size : Int) := by omega
        clear hs
        go_wp2_with fail
        go_ret
        exact ⟨ret_bool (by rw [HR.out, all_stop' HX.out HS.out]; simp), HBL.out⟩
    · have HL : Hid (l.all (fun t => shortS t.s) = true) := Lib.hid (all_end' (by have := HN.out; omega) HO.out)
      clear HO
      have hge : ¬ (k : Int) < n := by omega
      go_wp2_with fail
      go_loop [6] (fun i => ∃ k : Nat, k ≤ im ∧ i = .int .i64 k ∧ Hid ((ins.take k).all shortS = true)) (fun i => im - (intOf i).toNat)
      case atStart => exact ⟨0, Nat.zero_le _, rfl, Lib.hid rfl⟩
      case round =>
        obtain ⟨j, hj, rfl, HO⟩ := hrel
        by_cases hlt2 : j < im
        · obtain ⟨s, hs0⟩ : ∃ s, ins[j]? = some s := get_some (by have := HIN.out; omega)
          obtain ⟨b, off, rfl, hb, hcell⟩ := HI'.out (by omega)
          have c0 := hcell j s hs0
          have HX := Lib.hid hs0
          have hlt' : (j : Int) < im := by omega
          clear hs0 hcell
          by_cases hs : s.size ≤ 100
          · have HS : Hid (shortS s = true) := Lib.hid (by simp [shortS, hs])
            have gs : ¬ 100 < (s.size : Int) := by omega
            go_wp2_with fail
            go_round
            case rel => exact ⟨j + 1, by omega, by go_num, Lib.hid (all_next' HX.out HS.out HO.out)⟩
            case measure => simp [intOf]; omega
          · have HS : Hid (shortS s = false) := Lib.hid (by simp [shortS]; omega)
            have gs : 100 < (s.size : Int) := by omega
            clear hs
            go_wp2_with fail
            go_ret
            exact ⟨ret_bool (by rw [HR.out, all_stop' HX.out HS.out]; simp), HBL.out⟩
        · have HL2 : Hid (ins.all shortS = true) := Lib.hid (all_end' (by have := HIN.out; omega) HO.out)
          clear HO
          have hge2 : ¬ (j : Int) < im := by omega
          go_wp2_with fail
          go_loop [7] (fun i => ∃ k : Nat, k ≤ vn ∧ i = .int .i64 k ∧ Hid ((vars.take k).all (fun v => shortS v.s) = true)) (fun i => vn - (intOf i).toNat)
          case atStart => exact ⟨0, Nat.zero_le _, rfl, Lib.hid rfl⟩
          case round =>
            obtain ⟨m, hm, rfl, HO⟩ := hrel
            by_cases hlt3 : m < vn
            · obtain ⟨v, hv0⟩ : ∃ v, vars[m]? = some v := get_some (by have := HVN.out; omega)
              obtain ⟨b, off, rfl, hb, c0, -, -, -⟩ := HV.out.at_ hv0
              have HX := Lib.hid hv0
              have hlt' : (m : Int) < vn := by omega
              clear hv0
              by_cases hs : v.s.size ≤ 100
              · have HS : Hid (shortS v.s = true) := Lib.hid (by simp [shortS, hs])
                have gs : ¬ 100 < (v.s.size : Int) := by omega
                go_wp2_with fail
                go_round
                case rel => exact ⟨m + 1, by omega, by go_num, Lib.hid (all_next' (f := fun v : Vr => shortS v.s) HX.out HS.out HO.out)⟩
                case measure => simp [intOf]; omega
              · have HS : Hid (shortS v.s = false) := Lib.hid (by simp [shortS]; omega)
                have gs : 100 < (v.s.size : Int) := by omega
                clear hs
                go_wp2_with fail
                go_ret
                exact ⟨ret_bool (by rw [HR.out, all_stop' (f := fun v : Vr => shortS v.s) HX.out HS.out]; simp), HBL.out⟩
            · have HL3 : Hid (vars.all (fun v => shortS v.s) = true) := Lib.hid (all_end' (by have := HVN.out; omega) HO.out)
              clear HO
              have hge3 : ¬ (m : Int) < vn := by omega
              go_wp2_with fail
              go_ret
              exact ⟨ret_bool (by rw [HR.out, HL.out, HL2.out, HL3.out]; rfl), HBL.out⟩
theorem elight_any (p : EP) (e : Ev) (A : Option Addr) (n c : Nat) (l : List Tm) (hn : n = l.length) (w : World) (h : Tms w (.slice A n c) l) (he : EnvIn w p e) :
    Calls Tryz.prog 21 #[.slice A n c, envV p e] w (RetB w (lightE e l)) := by
  by_cases hb : n ≤ 60 ∧ e.vars.length ≤ 20 ∧ e.ins.length ≤ 80
  · exact light_few' p e A n c l hn w h he hb
  · exact light_big p e A n c l hn w he (by omega)
end Go.Proofs.YtcfcpbkeedfbpaaGreatDoor

namespace Go.Proofs.YtcfcpbkeedfbpaaGreatDoor
open Go.RowKit TermSpec EvalSpec ActSpec NamesSpec
set_option maxRecDepth 100000

abbrev noP : EP := ⟨none, 0, 0, none, 0, 0⟩
abbrev noE : Ev := ⟨[], 0, 0, 0, 0, []⟩
theorem no_env (w : World) : EnvIn w noP noE := ⟨⟨rfl, Rdk.nil 4 w⟩, Rd.nil w, by decide, by decide⟩
def lightOne (a : Ac) : Bool := shortS a.s && lightE noE a.x
def lightA (l : List Ac) : Bool := decide (l.length < 20) && l.all lightOne
theorem lightA_parts {l : List Ac} (h : lightA l = true) : l.length < 20 ∧ ∀ a ∈ l, a.s.size ≤ 100 ∧ a.x.length ≤ 60 ∧ ∀ t ∈ a.x, t.s.size ≤ 100 := by
  unfold lightA at h
  simp only [Bool.and_eq_true, decide_eq_true_eq, List.all_eq_true] at h
  refine ⟨h.1, fun a ha => ?_⟩
  have := h.2 a ha
  unfold lightOne at this
  rw [Bool.and_eq_true] at this
  obtain ⟨h1, _, _, h2⟩ := light_parts this.2
  exact ⟨by simpa [shortS] using this.1, h1, h2⟩
theorem lightA_bad {l : List Ac} {k : Nat} {a : Ac} (h : l[k]? = some a) (h1 : lightOne a = false) : lightA l = false := by unfold lightA; rw [all_stop' h h1]; simp
def LightARel (W : World) (l : List Ac) (n : Nat) (i : Value) (wr : World) : Prop := ∃ k : Nat, k ≤ n ∧ k ≤ 20 ∧ i = .int .i64 k ∧ (l.take k).all lightOne = true ∧ Below W.heap.size W wr
set_option maxHeartbeats 1000000 in
theorem lightA_any (A : Option Addr) (n c : Nat) (l : List Ac) (hs : ∀ a ∈ l, a.s.size ≤ 9223372036854775807) (w : World) (h : Acs w (.slice A n c) l) :
    Calls Tryz.prog 6 #[.slice A n c] w (RetB w (lightA l)) := by
  have hn := h.len.1
  have hcap := h.len.2
  have HN := Lib.hid hn
  have HT := Lib.hid h
  have HS := Lib.hid hs
  obtain ⟨r, hr⟩ : ∃ r, r = lightA l := ⟨_, rfl⟩
  rw [← hr]
  have HR := Lib.hid hr
  clear hn h hs hr
  go_enter Tryz.func6, Tryz.ntmps6
  go_wp2_with fail
  go_loopw [3] (fun i wr => LightARel w l n i wr) (fun i _ => n - (intOf i).toNat)
  case atStart => exact ⟨0, Nat.zero_le _, Nat.zero_le _, rfl, rfl, Below.refl _ _⟩
  case round =>
    obtain ⟨k, hk, hk20, rfl, hall, hbw⟩ := hrel
    have HA := Lib.hid hall
    have HB := Lib.hid hbw
    clear hall hbw
    by_cases hlt : k < n
    · have hkI : (k : Int) < n := by omega
      by_cases h20 : k < 20
      · have h20I : (k : Int) < 20 := by omega
        obtain ⟨a, ha⟩ : ∃ a, l[k]? = some a := get_some (by rw [← HN.out]; exact hlt)
        obtain ⟨b, off, xA, xn, xc, rfl, hb, htm, c0, c1, c2⟩ := (HT.out.keep HB.out).at_ ha
        obtain ⟨xA', xn', xc', heq, hxn, hxc⟩ := htm.shape
        cases heq
        have HC : Hid (Calls Tryz.prog 21 #[.slice xA xn xc, .agg #[.slice none 0 0, .int .i64 0, .int .i64 0, .int .i64 0, .int .i64 0, .slice none 0 0]] wr (RetB wr (lightE noE a.x))) := Lib.hid (elight_any noP noE xA xn xc a.x hxn wr htm (no_env wr))
        have HNX := Lib.hid (fun h1 => all_next' ha (f := lightOne) h1 HA.out)
        have HST := Lib.hid (fun h1 => lightA_bad ha h1)
        have HO : Hid (lightOne a = (decide (a.s.size ≤ 100) && lightE noE a.x)) := Lib.hid rfl
        have hsz := HS.out a (List.mem_of_getElem? ha)
        obtain ⟨q, hq⟩ : ∃ q, q = lightE noE a.x := ⟨_, rfl⟩
        rw [← hq] at HC HO
        clear ha hq htm hxn hxc
        obtain ⟨s, any, x⟩ := a
        simp only at c0 c1 c2 HC hsz HO
        by_cases hs1 : 100 < s.size
        · have HST' := Lib.hid (HST.out (by rw [HO.out]; simp; omega))
          have g : decide (100 < (s.size : Int)) = true := by simp; omega
          clear HNX HST
          go_wp2_with fail
          go_ret
          exact ⟨ret_bool (by rw [HR.out, HST'.out]), HB.out⟩
        · have g : decide (100 < (s.size : Int)) = false := by simp; omega
          rcases hq : q with _ | _
          · rw [hq] at HC
            have HST' := Lib.hid (HST.out (by rw [HO.out, hq]; simp))
            clear HNX HST hq HO
            go_wp2_with (go_at_call 21; (with_reducible refine HC.out.mono ?_))
            rintro e2 w2 ⟨rfl, hb2⟩
            have HB2 := Lib.hid (below_two' HB.out hb2)
            clear hb2
            go_wp2_with fail
            go_ret
            exact ⟨ret_bool (by rw [HR.out, HST'.out]), HB2.out⟩
          · rw [hq] at HC
            have HNX' := Lib.hid (HNX.out (by rw [HO.out, hq]; simp; omega))
            clear HNX HST hq HO
            go_wp2_with (go_at_call 21; (with_reducible refine HC.out.mono ?_))
            rintro e2 w2 ⟨rfl, hb2⟩
            have HB2 := Lib.hid (below_two' HB.out hb2)
            clear hb2
            go_wp2_with fail
            go_roundw
            case rel => exact ⟨k + 1, by omega, by omega, by go_num, HNX'.out, HB2.out⟩
            case measure => simp [intOf]; omega
      · have h20I : ¬ (k : Int) < 20 := by omega
        have HE : Hid (r = false) := Lib.hid (by rw [HR.out]; unfold lightA; rw [show decide (l.length < 20) = false by have := HN.out; simp; omega]; simp)
        have g : decide ((n : Int) < 20) = false := by simp; omega
        have g' : decide (n < 20) = false := by simp; omega
        go_wp2_with fail
        go_ret
        exact ⟨ret_bool HE.out.symm, HB.out⟩
    · have hkI : ¬ (k : Int) < n := by omega
      have HE : Hid (r = decide (n < 20)) := Lib.hid (by
        have h1 := HA.out
        have h2 := HN.out
        rw [List.take_of_length_le (by omega)] at h1
        rw [HR.out]; unfold lightA; rw [h1, h2]; simp)
      go_wp2_with fail
      go_ret
      exact ⟨ret_bool (by rw [HE.out]; simp; omega), HB.out⟩
end Go.Proofs.YtcfcpbkeedfbpaaGreatDoor

namespace Go.Proofs.YtcfcpbkeedfbpaaGreatDoor
open Go.RowKit Go.Sort CurSpec TermSpec EvalSpec ActSpec NamesSpec ExprSpec ScanSpec
set_option maxRecDepth 100000

theorem toks_of {s : ByteArray} {W w : World} {e : Ending} (h : TokPost W s e w) (h0 : (scanT s.data.toList).2.2 = 0) :
    ∃ A n cp, e = .returned (.tuple #[.slice A n cp, .agg #[.int .i64 0, .int .i64 0], .int .i64 0]) ∧ Toks w (.slice A n cp) (tkAll s) ∧ n ≤ 4001 ∧ Below W.heap.size W w := by
  obtain ⟨hb, -, hv⟩ := h
  obtain ⟨v, rfl, A, cp, rfl, hrest⟩ := hv h0
  refine ⟨A, _, cp, rfl, ?_, scanT_len _, hb⟩
  exact ⟨_, by simp [tkAll], A, cp, rfl, hrest.1, by rw [show tkAll s = (scanT s.data.toList).1.map (tokOf s) from rfl, ← toks_map]; exact hrest.2.1, by rw [show tkAll s = (scanT s.data.toList).1.map (tokOf s) from rfl, ← toks_map]; exact hrest.2.2⟩
set_option maxHeartbeats 2000000 in
theorem puts_no (A : Option Addr) (n c : Nat) (l : List Ac) (w : World) (hg : SignsIn w) (h : Acs w (.slice A n c) l) (hs : ∀ a ∈ l, a.s.size ≤ 9223372036854775807) (h1 : lightA l = false) :
    Calls Tryz.prog 3 #[.slice A n c] w fun e w' => e = .returned (.bool true) ∧ Below w.heap.size w w' := by
  have HAW := Lib.hid (fun W (hW : Below w.heap.size w W) => aawake_any W (hg.keep hW))
  have HLA := Lib.hid (lightA_any A n c l hs w h)
  rw [h1] at HLA
  clear hs h h1 hg
  go_enter Tryz.func3, Tryz.ntmps3
  go_wp2_with (go_at_call 6; (with_reducible refine HLA.out.mono ?_))
  rintro e2 w2 ⟨rfl, hb2⟩
  have HB2 := Lib.hid hb2
  clear hb2
  go_wp2_with (go_at_call 7; (with_reducible refine (HAW.out _ HB2.out).mono ?_))
  rintro e2 w3 ⟨rfl, hb3⟩
  have HB3 := Lib.hid (below_two' HB2.out hb3)
  clear hb3
  go_wp2_with fail
  go_ret
  exact ⟨rfl, HB3.out⟩
set_option maxHeartbeats 2000000 in
theorem puts_bad (A : Option Addr) (n c : Nat) (l : List Ac) (w : World) (hg : SignsIn w) (h : Acs w (.slice A n c) l) (hs : ∀ a ∈ l, SmallA a) (hl : l.length ≤ 9223372036854775807) (h1 : lightA l = true) (hk : chkA l ≠ 0) :
    Calls Tryz.prog 3 #[.slice A n c] w fun e w' => e = .returned (.bool true) ∧ Below w.heap.size w w' := by
  have HAW := Lib.hid (fun W (hW : Below w.heap.size w W) => aawake_any W (hg.keep hW))
  have HLA := Lib.hid (lightA_any A n c l (fun a ha => (hs a ha).1) w h)
  rw [h1] at HLA
  have HPUT := Lib.hid (fun W (hW : Below w.heap.size w W) => (aput_any A n c l hs hl W (h.keep hW) (hg.keep hW)).1 hk)
  have HRC := Lib.hid (fun W (hW : Below w.heap.size w W) => rcheck_acts A n c l hs hl W (h.keep hW))
  have HCK := Lib.hid (fun W (hW : Below w.heap.size w W) => check_acts A n c l hs hl W (h.keep hW))
  obtain ⟨k, hkk⟩ : ∃ k, k = chkA l := ⟨_, rfl⟩
  rw [← hkk] at HPUT HRC HCK hk
  have e1 : (k != 0) = true := by simpa using hk
  clear hs h h1 hg hkk hk hl
  go_enter Tryz.func3, Tryz.ntmps3
  go_wp2_with (go_at_call 6; (with_reducible refine HLA.out.mono ?_))
  rintro e2 w2 ⟨rfl, hb2⟩
  have HB2 := Lib.hid hb2
  clear hb2
  go_wp2_with (go_at_call 8; (with_reducible refine (HPUT.out _ HB2.out).mono ?_))
  rintro e2 w3 ⟨rfl, hb3⟩
  have HB3 := Lib.hid (below_two' HB2.out hb3)
  clear hb3
  go_wp2_with (go_at_call 9; (with_reducible refine (HRC.out _ HB3.out).mono ?_))
  rintro e2 w4 ⟨rfl, hb4⟩
  have HB4 := Lib.hid (below_two' HB3.out hb4)
  clear hb4
  go_wp2_with (go_at_call 10; (with_reducible refine (HCK.out _ HB4.out).mono ?_))
  rintro e2 w5 ⟨rfl, hb5⟩
  have HB5 := Lib.hid (below_two' HB4.out hb5)
  clear hb5
  go_wp2_with (go_at_call 7; (with_reducible refine (HAW.out _ HB5.out).mono ?_))
  rintro e2 w6 ⟨rfl, hb6⟩
  have HB6 := Lib.hid (below_two' HB5.out hb6)
  clear hb6
  go_wp2_with fail
  go_ret
  exact ⟨rfl, HB6.out⟩
set_option maxHeartbeats 4000000 in
theorem puts_ok (A : Option Addr) (n c : Nat) (l : List Ac) (w : World) (hp : PairsIn w) (hg : SignsIn w) (h : Acs w (.slice A n c) l) (hs : ∀ a ∈ l, SmallA a) (hl : l.length ≤ 9223372036854775807) (h1 : lightA l = true) (hk : chkA l = 0) :
    Calls Tryz.prog 3 #[.slice A n c] w fun e w' => e = .returned (.bool true) ∧ Below w.heap.size w w' := by
  obtain ⟨h8, hf⟩ : l.length ≤ 8 ∧ firstA l = 0 := by
    unfold chkA at hk
    split at hk
    · cases hk
    · exact ⟨by omega, hk⟩
  obtain ⟨ts, hts, hok⟩ := tas_of hf
  have hlt : l.length = ts.length := by rw [← hts, List.length_map]
  have hlp := lightA_parts h1
  have HAW := Lib.hid (fun W (hW : Below w.heap.size w W) => aawake_any W (hg.keep hW))
  have HLA := Lib.hid (lightA_any A n c l (fun a ha => (hs a ha).1) w h)
  rw [h1] at HLA
  have HPUT := Lib.hid (fun W (hW : Below w.heap.size w W) => (aput_any A n c l hs hl W (h.keep hW) (hg.keep hW)).2 ts hts hok hk)
  have HRC := Lib.hid (fun W (hW : Below w.heap.size w W) => rcheck_acts A n c l hs hl W (h.keep hW))
  have HCK := Lib.hid (fun W (hW : Below w.heap.size w W) => check_acts A n c l hs hl W (h.keep hW))
  rw [hk] at HRC HCK
  have HRP := Lib.hid (fun W (hW : Below w.heap.size w W) => rput_acts ts hok (by omega) A n c W (by rw [hts]; exact h.keep hW) (hg.keep hW))
  have hsz := putB_size hok
  have HTK := Lib.hid (fun W (hW : Below w.heap.size w W) => stoks_any (putB ts) W (hp.keep hW))
  have HRD := Lib.hid (fun hne : l ≠ [] => read_put (ts := ts) (fun e => hne (by rw [← hts, e]; rfl)) hok (by omega))
  have HNL := Lib.hid h.len.1
  have HT := Lib.hid (And.intro h hg)
  have HFW : Hid (l.length ≤ 64 ∧ ∀ a ∈ l, a.x.length ≤ 1000) := Lib.hid ⟨by omega, fun a ha => by have := (hlp.2 a ha).2.1; omega⟩
  have HTS := Lib.hid hts
  obtain ⟨s, hss⟩ : ∃ s, s = putB ts := ⟨_, rfl⟩
  rw [← hss] at HPUT HRP HTK HRD hsz
  have hs20 : s.size ≤ 20000 := by omega
  have g1 : (s.toList == s.toList) = true := by simp
  clear hs h h1 hg hk hl hf hok hlp hp hss hts hsz hlt h8
  go_enter Tryz.func3, Tryz.ntmps3
  go_wp2_with (go_at_call 6; (with_reducible refine HLA.out.mono ?_))
  rintro e2 w2 ⟨rfl, hb2⟩
  have HB2 := Lib.hid hb2
  clear hb2
  go_wp2_with (go_at_call 8; (with_reducible refine (HPUT.out _ HB2.out).mono ?_))
  rintro e2 w3 ⟨rfl, hb3⟩
  have HB3 := Lib.hid (below_two' HB2.out hb3)
  clear hb3
  go_wp2_with (go_at_call 9; (with_reducible refine (HRC.out _ HB3.out).mono ?_))
  rintro e2 w4 ⟨rfl, hb4⟩
  have HB4 := Lib.hid (below_two' HB3.out hb4)
  clear hb4
  go_wp2_with (go_at_call 10; (with_reducible refine (HCK.out _ HB4.out).mono ?_))
  rintro e2 w5 ⟨rfl, hb5⟩
  have HB5 := Lib.hid (below_two' HB4.out hb5)
  clear hb5
  by_cases h0 : n = 0
  · subst h0
    go_wp2_with (go_at_call 11; (with_reducible refine (HRP.out _ HB5.out).mono ?_))
    rintro e2 w6 ⟨rfl, hb6⟩
    have HB6 := Lib.hid (below_two' HB5.out hb6)
    clear hb6
    go_wp2_with (go_at_call 7; (with_reducible refine (HAW.out _ HB6.out).mono ?_))
    rintro e2 w7 ⟨rfl, hb7⟩
    have HB7 := Lib.hid (below_two' HB6.out hb7)
    clear hb7
    go_wp2_with fail
    go_ret
    exact ⟨rfl, HB7.out⟩
  · have hne : l ≠ [] := fun e => h0 (by rw [HNL.out, e]; rfl)
    obtain ⟨hsc, hra, hrb, hrk⟩ := HRD.out hne
    have g0 : ((n : Int) == 0) = false := by simp; omega
    have g0' : (n == 0) = false := by simp; omega
    have HSC := Lib.hid hsc
    rw [HTS.out] at hra
    obtain ⟨r, hr⟩ : ∃ r, r = readA (cur0 (tkAll s)) := ⟨_, rfl⟩
    rw [← hr] at hra hrb hrk
    have HRA := Lib.hid (And.intro hr (And.intro hra (And.intro hrb hrk)))
    clear HRD hne hsc hr hra hrb hrk HNL h0
    go_wp2_with (go_at_call 11; (with_reducible refine (HRP.out _ HB5.out).mono ?_))
    rintro e2 w6 ⟨rfl, hb6⟩
    have HB6 := Lib.hid (below_two' HB5.out hb6)
    clear hb6
    go_wp2_with (go_at_call 12; (with_reducible refine (HTK.out _ HB6.out).mono ?_))
    rintro e2 w7 hpost
    obtain ⟨At, nt, ct, rfl, hT7, hn7, hb7⟩ := toks_of hpost HSC.out
    have HB7 := Lib.hid (below_two' HB6.out hb7)
    have HNEW := Lib.hid (fun W (hW : Below w7.heap.size w7 W) => new_any At nt ct (tkAll s) W (hT7.keep hW) (by omega))
    clear hpost hT7 hb7
    go_wp2_with (go_at_call 13; (with_reducible refine (HNEW.out _ (KitC.below_one _ _)).mono ?_))
    rintro e2 w8 ⟨B, rfl, hBs, hC8, hb8⟩
    have HB8 := Lib.hid (below_two' (below_two' HB7.out (KitC.below_one _ _)) hb8)
    have HBS := Lib.hid (Nat.le_trans (below_two' HB7.out (KitC.below_one w7 (.cells #[.int .i64 0, .int .i64 0] 32))).size hBs)
    have HR := Lib.hid (read_acts B (cur0 (tkAll s)) w8 (HT.out.2.keep HB8.out) hC8 (tkAll_ok s (by omega)))
    rw [← HRA.out.1] at HR
    clear hBs hC8 hb8
    go_wp2_with (go_at_call 14; (with_reducible refine HR.out.mono ?_))
    rintro e2 w9 ⟨A9, n9, c9, rfl, hC9, hA9, hb9⟩
    have HB9 : Hid (Below w.heap.size w w9) := Lib.hid (below_but HB8.out hb9 HBS.out)
    rw [HRA.out.2.1] at hA9
    have H9 := Lib.hid (And.intro hC9 hA9)
    clear hC9 hA9 hb9
    have HSM := Lib.hid (fun W (hW : Below w9.heap.size w9 W) => rsame_acts A9 A n9 n c9 c l W (H9.out.2.keep hW) (HT.out.1.keep (below_two' HB9.out hW)) HFW.out.1 HFW.out.2)
    have HGD := Lib.hid (fun W (hW : Below w9.heap.size w9 W) => good_any (b := true) _ _ _ _ W (Fl.of (H9.out.1.keep hW)) (by rw [HRA.out.2.2.1]; rfl))
    have HNX := Lib.hid (fun W (hW : Below w9.heap.size w9 W) => next_at B r.1 W (H9.out.1.keep hW))
    rw [HRA.out.2.2.2] at HNX
    have hfld : ∀ (u0 u1 u2 u3 : Value) W, (Instr.field 40 (.agg #[u0, u1, u2, u3]) 0).run Tryz.prog W = .ok u0 W := fun u0 u1 u2 u3 W => by kernel_rfl
    go_wp2_with (go_at_call 15; (with_reducible refine (HSM.out _ (Below.refl _ _)).mono ?_))
    rintro e2 y1 ⟨rfl, hb1⟩
    have HY1 := Lib.hid hb1
    clear hb1
    go_wp2_with (go_at_call 16; (with_reducible refine (HGD.out _ HY1.out).mono ?_))
    rintro e2 y2 ⟨rfl, hb2⟩
    have HY2 := Lib.hid (below_two' HY1.out hb2)
    clear hb2
    go_wp2_with (go_at_call 17; (with_reducible refine (HNX.out _ HY2.out).mono ?_))
    rintro e2 y3 ⟨rfl, hb3⟩
    have HY3 := Lib.hid (below_two' HY2.out hb3)
    clear hb3
    go_wp2_with (go_at_call 7; (with_reducible refine (HAW.out _ (below_two' HB9.out HY3.out)).mono ?_))
    rintro e2 y4 ⟨rfl, hb4⟩
    have HY4 := Lib.hid (below_two' HY3.out hb4)
    clear hb4
    go_wp2_with fail
    go_ret
    exact ⟨rfl, below_two' HB9.out HY4.out⟩
theorem walk_ActPuts (A : Option Addr) (n c : Nat) (l : List Ac) (w : World) (hp : PairsIn w) (hg : SignsIn w) (h : Acs w (.slice A n c) l) (hs : ∀ a ∈ l, a.s.size ≤ 9223372036854775807 ∧ Small a.x ∧ a.x.length ≤ 9223372036854775807) (hl : l.length ≤ 9223372036854775807) :
    Calls Tryz.prog 3 #[.slice A n c] w fun e w' => e = .returned (.bool true) ∧ Below w.heap.size w w' := by
  rcases h1 : lightA l with _ | _
  · exact puts_no A n c l w hg h (fun a ha => (hs a ha).1) h1
  · have hs' : ∀ a ∈ l, SmallA a := fun a ha => ⟨(hs a ha).1, (hs a ha).2.1, by have := ((lightA_parts h1).2 a ha).2.1; omega⟩
    by_cases hk : chkA l = 0
    · exact puts_ok A n c l w hp hg h hs' hl h1 hk
    · exact puts_bad A n c l w hg h hs' hl h1 hk
end Go.Proofs.YtcfcpbkeedfbpaaGreatDoor

namespace Go.Proofs.YtcfcpbkeedfbpaaGreatDoor
open Go.RowKit

theorem cells_of_strs {H : Type} {enc : TypeId × Value → H} {P : Program} {w : World} {base : Nat} {sp : Nat → Bool} {held : Bool} {fuel : Nat} {t e : TypeId} {n : Nat} {cs : List Value} {bs : List (List UInt8)} {p : List MemPlace}
    (ht : P.underlying t = some (.array n e)) (he : P.underlying e = some .string) (hce : P.cellsOf e = 1) (hct : P.cellsOf t = n)
    (h : DataW.trod enc P w base sp held fuel t cs = some (.agg (bs.map fun b => .lit (.string b)), p)) : cs = bs.map fun b => Value.string ⟨b.toArray⟩ := by
  obtain ⟨xs, m, rfl, hx, hl, hxl, hel⟩ := DataW.trod_array ht h
  simp only [Prod.mk.injEq, DataW.agg.injEq] at hx
  have hxs := hx.1
  have hbl : bs.length = n := by
    have := congrArg List.length hxs
    simp at this
    omega
  rw [hct] at hl
  apply List.ext_getElem?
  intro i
  by_cases hi : i < n
  · obtain ⟨b, hb⟩ : ∃ b, xs[i]? = some b := get_some (by omega)
    have hf := (hel i hi).trans hb
    rw [hce, Nat.mul_one] at hf
    obtain ⟨s, hc, rfl, _⟩ := DataW.trod_string he hf
    have h1 : cs[i]? = some (.string s) := by
      have := congrArg (·[0]?) hc
      simpa [List.getElem?_take, List.getElem?_drop] using this
    have h2 : (xs.map (·.1))[i]? = some (DataW.lit (.string s.data.toList) : DataW H) := by simp [hb]
    rw [← hxs] at h2
    simp only [List.getElem?_map, Option.map_eq_some_iff, DataW.lit.injEq, Lit.string.injEq] at h2
    obtain ⟨z, hz, rfl⟩ := h2
    simp [h1, hz]
  · rw [List.getElem?_eq_none (by omega), List.getElem?_eq_none (by simp; omega)]
end Go.Proofs.YtcfcpbkeedfbpaaGreatDoor

namespace Go.Proofs.YtcfcpbkeedfbpaaGreatDoor
open Go.RowKit ScanSpec
set_option maxRecDepth 100000

def pairsB : List (List UInt8) := [[45, 62], [58, 61], [60, 61], [62, 61], [33, 61], [61, 61], [46, 46]]
theorem gPairs : Tryz.prog.globalNamed "semblance/scan.pairs" = some 0 := by kernel_rfl
theorem tPairs : (Tryz.prog.globals[0]?).map (·.type) = some 170 := by kernel_rfl
theorem pairs_in {W : World} {rest : List (String × DataW Unit)} (h : laidMet Tryz.prog (("semblance/scan.pairs", Rows.laid_semblance_scan_pairs) :: rest) W) : PairsIn W := by
  obtain ⟨ps, ⟨g', t', cs, fuel, p, q, hg', ht', hvar, hd, _, _⟩, _⟩ := h
  obtain rfl := Option.some.inj (gPairs.symm.trans hg')
  obtain rfl := Option.some.inj (tPairs.symm.trans ht')
  have hc := cells_of_strs (bs := pairsB) Tryz.underlying170 Tryz.underlying9 (by kernel_rfl) (by kernel_rfl) hd
  have e : cs = pairsV := Array.toList_inj.mp hc
  subst e
  unfold World.var? at hvar
  rw [gPairs] at hvar
  simp only [Option.bind_some] at hvar
  split at hvar
  · rename_i cs' T fr hb
    cases hvar
    exact ⟨T, fr, hb⟩
  · cases hvar
end Go.Proofs.YtcfcpbkeedfbpaaGreatDoor

namespace Go.Proofs.YtcfcpbkeedfbpaaGreatDoor
open Go.RowKit ExprSpec
set_option maxRecDepth 100000

theorem list5 {α : Type} {l : List α} (h : l.length = 5) : ∃ a b c d e, l = [a, b, c, d, e] := by
  match l, h with
  | [a, b, c, d, e], _ => exact ⟨a, b, c, d, e, rfl⟩
def sgD {H : Type} (s : Sg) : DataW H := .agg [.lit (.string s.t.data.toList), .lit (.int .i64 s.op), .lit (.int .i64 s.lev), .lit (.int .i64 s.left), .lit (.int .i64 s.right)]
theorem sg_cells : Tryz.prog.cellsOf 163 = 5 := by kernel_rfl
theorem sg_table : Tryz.prog.cellsOf 197 = 55 := by kernel_rfl
theorem sg_str : Tryz.prog.cellsOf 9 = 1 := by kernel_rfl
theorem sg_int : Tryz.prog.cellsOf 3 = 1 := by kernel_rfl
theorem sign_part {H : Type} {enc : TypeId × Value → H} {w : World} {base : Nat} {sp : Nat → Bool} {held : Bool} {fuel : Nat} {cs : List Value} {s : Sg} {p : List MemPlace}
    (h : DataW.trod enc Tryz.prog w base sp held fuel 163 cs = some (sgD s, p)) : cs = sgC s := by
  obtain ⟨xs, n, _, hx, hl, hlen, hf⟩ := DataW.trod_struct Tryz.underlying163 h
  obtain ⟨a, b, c, d, e, rfl⟩ := list5 (hl.trans sg_cells)
  obtain ⟨y0, y1, y2, y3, y4, rfl⟩ := list5 hlen
  have g0 : DataW.trod enc Tryz.prog w base sp held n 9 (([a, b, c, d, e].drop 0).take (Tryz.prog.cellsOf 9)) = some y0 := hf 0 _ rfl
  rw [sg_str] at g0
  have g1 : DataW.trod enc Tryz.prog w base sp held n 3 (([a, b, c, d, e].drop 1).take (Tryz.prog.cellsOf 3)) = some y1 := hf 1 _ rfl
  rw [sg_int] at g1
  have g2 : DataW.trod enc Tryz.prog w base sp held n 3 (([a, b, c, d, e].drop 2).take (Tryz.prog.cellsOf 3)) = some y2 := hf 2 _ rfl
  rw [sg_int] at g2
  have g3 : DataW.trod enc Tryz.prog w base sp held n 3 (([a, b, c, d, e].drop 3).take (Tryz.prog.cellsOf 3)) = some y3 := hf 3 _ rfl
  rw [sg_int] at g3
  have g4 : DataW.trod enc Tryz.prog w base sp held n 3 (([a, b, c, d, e].drop 4).take (Tryz.prog.cellsOf 3)) = some y4 := hf 4 _ rfl
  rw [sg_int] at g4
  obtain ⟨s0, c0, rfl, -⟩ := DataW.trod_string Tryz.underlying9 g0
  obtain ⟨n1, c1, rfl, -⟩ := DataW.trod_int Tryz.underlying3 g1
  obtain ⟨n2, c2, rfl, -⟩ := DataW.trod_int Tryz.underlying3 g2
  obtain ⟨n3, c3, rfl, -⟩ := DataW.trod_int Tryz.underlying3 g3
  obtain ⟨n4, c4, rfl, -⟩ := DataW.trod_int Tryz.underlying3 g4
  simp at c0 c1 c2 c3 c4
  subst c0 c1 c2 c3 c4
  simp only [sgD, List.map_cons, List.map_nil, Prod.mk.injEq, DataW.agg.injEq, List.cons.injEq, DataW.lit.injEq, Lit.string.injEq, Lit.int.injEq, true_and, and_true] at hx
  obtain ⟨⟨h0, h1, h2, h3, h4⟩, -⟩ := hx
  have h0' : s.t = s0 := ByteArray.ext (Array.toList_inj.mp h0)
  subst h0' h1 h2 h3 h4
  rfl
theorem flat_parts {α β : Type} {g : α → List β} {k : Nat} (hg : ∀ a, (g a).length = k) : ∀ (L : List α) (cs : List β), cs.length = L.length * k → (∀ i a, L[i]? = some a → (cs.drop (i * k)).take k = g a) → cs = L.flatMap g
  | [], cs, hl, _ => by simpa using hl
  | a :: L, cs, hl, h => by
    have h0 := h 0 a rfl
    rw [Nat.zero_mul, List.drop_zero] at h0
    rw [List.length_cons, Nat.succ_mul] at hl
    have ih := flat_parts hg L (cs.drop k) (by rw [List.length_drop]; omega) (fun i b hb => by
      rw [List.drop_drop, show k + i * k = (i + 1) * k by rw [Nat.succ_mul]; omega]
      exact h (i + 1) b hb)
    rw [List.flatMap_cons, ← ih, ← h0, List.take_append_drop]
theorem gSigns : Tryz.prog.globalNamed "semblance/expr.signs" = some 1 := by kernel_rfl
theorem tSigns : (Tryz.prog.globals[1]?).map (·.type) = some 197 := by kernel_rfl
theorem laid_signs {H : Type} : (Rows.laid_semblance_expr_signs : DataW H) = .agg (sgs.map sgD) := rfl
theorem signs_one {W : World} {rest : List (String × DataW Unit)} (h : laidMet Tryz.prog (("semblance/expr.signs", Rows.laid_semblance_expr_signs) :: rest) W) : SignsIn W := by
  obtain ⟨ps, ⟨g', t', cs, fuel, p, q, hg', ht', hvar, hd, _, _⟩, _⟩ := h
  obtain rfl := Option.some.inj (gSigns.symm.trans hg')
  obtain rfl := Option.some.inj (tSigns.symm.trans ht')
  rw [laid_signs] at hd
  obtain ⟨xs, m, _, hx, hl, hxl, hel⟩ := DataW.trod_array Tryz.underlying197 hd
  simp only [Prod.mk.injEq, DataW.agg.injEq] at hx
  have hxs := hx.1
  rw [sg_table] at hl
  have hc : cs.toList = sgs.flatMap sgC := by
    refine flat_parts (k := 5) (fun s => rfl) sgs _ (by rw [hl]; rfl) (fun i s hs => ?_)
    have hi : i < 11 := by have := get_lt hs; rwa [sgs_len] at this
    obtain ⟨y, hy⟩ : ∃ y, xs[i]? = some y := get_some (by omega)
    have hf := (hel i hi).trans hy
    rw [sg_cells] at hf
    have h2 : (xs.map (·.1))[i]? = some y.1 := by simp [hy]
    rw [← hxs, List.getElem?_map, hs] at h2
    have h3 : sgD s = y.1 := Option.some.inj h2
    obtain ⟨y1, y2⟩ := y
    subst h3
    exact sign_part hf
  have e : cs = signsV := Array.toList_inj.mp hc
  subst e
  unfold World.var? at hvar
  rw [gSigns] at hvar
  simp only [Option.bind_some] at hvar
  split at hvar
  · rename_i cs' T fr hb
    cases hvar
    exact ⟨T, fr, hb⟩
  · cases hvar
theorem signs_in {W : World} {x : String × DataW Unit} {rest : List (String × DataW Unit)} (h : laidMet Tryz.prog (x :: ("semblance/expr.signs", Rows.laid_semblance_expr_signs) :: rest) W) : SignsIn W := signs_one (laidMet.tail h)
end Go.Proofs.YtcfcpbkeedfbpaaGreatDoor

namespace Go.Proofs.YtcfcpbkeedfbpaaGreatDoor
open Go.RowKit Go.ChangeShapes Go.WideShapes Go.Deep

theorem cell_there' {w : World} {b o : Nat} {u : Value} (h : w.cell? ⟨b, o, none⟩ = some u) : b < w.heap.size := by
  rcases Nat.lt_or_ge b w.heap.size with hlt | hge
  · exact hlt
  · simp [World.cell?, Array.getElem?_eq_none hge] at h
theorem list_of {α : Type} {R : Nat → α → Prop} : ∀ n, (∀ i, i < n → ∃ a, R i a) → ∃ l : List α, l.length = n ∧ ∀ i a, l[i]? = some a → R i a
  | 0, _ => ⟨[], rfl, fun i a h => by simp at h⟩
  | n + 1, h => by
    obtain ⟨l, hl, hR⟩ := list_of n (fun i hi => h i (by omega))
    obtain ⟨a, ha⟩ := h n (by omega)
    refine ⟨l ++ [a], by simp [hl], fun i b hb => ?_⟩
    rcases Nat.lt_or_ge i l.length with hlt | hge
    · rw [List.getElem?_append_left hlt] at hb
      exact hR i b hb
    · rw [List.getElem?_append_right hge] at hb
      obtain hi : i - l.length = 0 := by
        have := (List.getElem?_eq_some_iff.1 hb).1
        simp at this
        omega
      rw [hi] at hb
      simp at hb
      subst hb
      obtain rfl : i = n := by omega
      exact ha
theorem flat_at {α : Type} {k : Nat} {f : α → List Value} (hf : ∀ a, (f a).length = k) (hk : 0 < k) {l : List α} {q : Nat} {u : Value} (h : (l.flatMap f)[q]? = some u) : ∃ a, l[q / k]? = some a ∧ (f a)[q % k]? = some u := by
  have hq : q < l.length * k := by have := (List.getElem?_eq_some_iff.1 h).1; rwa [flat_length hf] at this
  have hi : q / k < l.length := Nat.div_lt_of_lt_mul (by rwa [Nat.mul_comm] at hq)
  refine ⟨l[q / k], List.getElem?_eq_getElem hi, ?_⟩
  rw [← flat_get hf (List.getElem?_eq_getElem hi) (Nat.mod_lt q hk), Nat.mul_comm (q / k) k, Nat.div_add_mod]
  exact h

theorem open_rows {α : Type} {f : α → List Value} {Good : α → Prop} {k : Nat} {H : Type} {enc : TypeId × Value → H} {P : Program} {W : World} {base b0 : Nat} {spare : Nat → Bool} {held : Bool} {r : Reach} {t e : TypeId} {v : Value} {d : DataW H} {p : List MemPlace}
    (hf : ∀ a, (f a).length = k) (hk0 : 0 < k) (hk : P.cellsOf e = k) (hu : P.underlying t = some (.slice e))
    (hdec : ∀ n cs x, DataW.trod enc P W base spare held n e cs = some x → ∃ a, cs = f a ∧ Good a)
    (hv : Value.okWide P W r b0 t v) (h : DataW.Trod enc P W base spare held t v d p) :
    ∃ (A : Option Addr) (n cp : Nat) (l : List α), v = .slice A n cp ∧ n = l.length ∧ Rdk k W (.slice A n cp) n (l.flatMap f) ∧ (∀ a ∈ l, Good a) ∧ n ≤ 9223372036854775807 := by
  obtain ⟨a0, len, cap, rfl⟩ := okWide_slice hu hv
  obtain ⟨fuel, hx⟩ := h
  rcases open_slice hu hx with ⟨hcs, _⟩ | ⟨a, len', cap', m, n, D, Pl, hcs, hb, hl, hm, hmm, _, hi⟩
  · simp [Value.cells] at hcs
    obtain ⟨rfl, rfl, rfl⟩ := hcs
    exact ⟨none, 0, 0, [], rfl, rfl, Rdk.nil k W, by simp, by omega⟩
  · simp [Value.cells] at hcs
    obtain ⟨rfl, rfl, rfl⟩ := hcs
    rw [hk] at hi
    have hlm : len ≤ m := by rw [hmm]; split <;> omega
    obtain ⟨l, hll, hR⟩ := list_of (R := fun i (x : α) => (∀ j, j < k → W.cell? ((a.add (i * k)).add j) = (f x)[j]?) ∧ Good x) len (fun i hlt => by
      obtain ⟨cs', hc, ht⟩ := hi i (by omega)
      obtain ⟨x, rfl, hg⟩ := hdec _ _ _ ht
      obtain ⟨_, _, hat⟩ := World.cells?_some hc
      exact ⟨x, hat, hg⟩)
    refine ⟨some a, len, cap, l, rfl, hll.symm, ⟨some a, cap, rfl, hl, by rw [flat_length hf, hll], fun h0 => ?_⟩, fun x hx => ?_, by unfold maxLen at hm; omega⟩
    · obtain ⟨x, hx0⟩ : ∃ x, l[0]? = some x := get_some (by omega)
      obtain ⟨u, hu0⟩ : ∃ u, (f x)[0]? = some u := get_some (by rw [hf]; exact hk0)
      obtain ⟨b, off, spot⟩ := a
      have h00 := (hR 0 x hx0).1 0 hk0
      rw [hu0] at h00
      have hspot : spot = none := by simpa [Addr.add] using World.cell?_spot h00
      subst hspot
      rw [addr_add, addr_add] at h00
      refine ⟨b, off, rfl, cell_there' h00, fun q u hq => ?_⟩
      obtain ⟨y, hy, hu⟩ := flat_at hf hk0 hq
      have := (hR _ y hy).1 (q % k) (Nat.mod_lt q hk0)
      rw [addr_add, addr_add, Nat.add_assoc, Nat.mul_comm (q / k) k, Nat.div_add_mod, hu] at this
      exact this
    · obtain ⟨i, hi⟩ := List.mem_iff_getElem?.1 hx
      exact (hR i x hi).2
end Go.Proofs.YtcfcpbkeedfbpaaGreatDoor

namespace Go.Proofs.YtcfcpbkeedfbpaaGreatDoor
namespace OpenD
open Go.RowKit Go.ChangeShapes Go.WideShapes Go.Deep
set_option maxRecDepth 100000

theorem cells_int : Tryz.prog.cellsOf 3 = 1 := by kernel_rfl
theorem cells_str : Tryz.prog.cellsOf 9 = 1 := by kernel_rfl
section
variable {H : Type} {enc : TypeId × Value → H} {W : World} {base : Nat} {spare : Nat → Bool} {held : Bool}
theorem dec_int {n : Nat} {c : Value} {x : Option (DataW H × List MemPlace)} (h : DataW.trod enc Tryz.prog W base spare held n 3 [c] = x) (hx : x.isSome) : ∃ k, c = .int .i64 k := by
  obtain ⟨y, rfl⟩ := Option.isSome_iff_exists.1 hx
  obtain ⟨k, hc, _⟩ := DataW.trod_int Tryz.underlying3 h
  simp at hc
  exact ⟨k, hc⟩
theorem dec_str {n : Nat} {c : Value} {x : Option (DataW H × List MemPlace)} (h : DataW.trod enc Tryz.prog W base spare held n 9 [c] = x) (hx : x.isSome) : ∃ s : ByteArray, c = .string s ∧ s.size ≤ 9223372036854775807 := by
  obtain ⟨y, rfl⟩ := Option.isSome_iff_exists.1 hx
  obtain ⟨s, hc, _, hs⟩ := DataW.trod_string Tryz.underlying9 h
  simp at hc
  exact ⟨s, hc, hs⟩
theorem some_at {α : Type} {l : List α} {i : Nat} (h : i < l.length) : (l[i]?).isSome := by rw [List.getElem?_eq_getElem h]; rfl
end
end OpenD
end Go.Proofs.YtcfcpbkeedfbpaaGreatDoor

namespace Go.Proofs.YtcfcpbkeedfbpaaGreatDoor
open Go.RowKit Go.ChangeShapes Go.WideShapes Go.Deep TermSpec OpenD
set_option maxRecDepth 100000

theorem cells_term : Tryz.prog.cellsOf 68 = 3 := by kernel_rfl
section
variable {H : Type} {enc : TypeId × Value → H} {W : World} {base : Nat} {spare : Nat → Bool} {held : Bool}
theorem dec_term (n : Nat) (cs : List Value) (x : DataW H × List MemPlace) (h : DataW.trod enc Tryz.prog W base spare held n 68 cs = some x) : ∃ t : Tm, cs = tmV t ∧ t.s.size ≤ 9223372036854775807 := by
  obtain ⟨xs, m, _, _, hl, hxl, hg⟩ := DataW.trod_struct Tryz.underlying68 h
  rw [cells_term] at hl
  have hxl' : xs.length = 3 := hxl
  match cs, hl with
  | [c0, c1, c2], _ =>
    have g0 : DataW.trod enc Tryz.prog W base spare held m 3 (([c0, c1, c2].drop 0).take (Tryz.prog.cellsOf 3)) = xs[0]? := hg 0 _ rfl
    have g1 : DataW.trod enc Tryz.prog W base spare held m 3 (([c0, c1, c2].drop 1).take (Tryz.prog.cellsOf 3)) = xs[1]? := hg 1 _ rfl
    have g2 : DataW.trod enc Tryz.prog W base spare held m 9 (([c0, c1, c2].drop 2).take (Tryz.prog.cellsOf 9)) = xs[2]? := hg 2 _ rfl
    rw [OpenD.cells_int] at g0 g1
    rw [OpenD.cells_str] at g2
    obtain ⟨a, rfl⟩ := OpenD.dec_int g0 (OpenD.some_at (by omega))
    obtain ⟨b, rfl⟩ := OpenD.dec_int g1 (OpenD.some_at (by omega))
    obtain ⟨s, rfl, hs⟩ := OpenD.dec_str g2 (OpenD.some_at (by omega))
    exact ⟨⟨a, b, s⟩, rfl, hs⟩
variable {b0 : Nat} {r : Reach} {v : Value} {d : DataW H} {p : List MemPlace}
end
end Go.Proofs.YtcfcpbkeedfbpaaGreatDoor

namespace Go.Proofs.YtcfcpbkeedfbpaaGreatDoor
open Go.RowKit Go.ChangeShapes Go.WideShapes Go.Deep TermSpec EvalSpec
set_option maxRecDepth 100000

theorem open_rows_c {α : Type} {f : α → List Value} {Good : α → Prop} {k : Nat} {H : Type} {enc : TypeId × Value → H} {P : Program} {W : World} {base : Nat} {spare : Nat → Bool} {held : Bool} {fuel : Nat} {t e : TypeId} {v : Value} {x : DataW H × List MemPlace}
    (hf : ∀ a, (f a).length = k) (hk0 : 0 < k) (hk : P.cellsOf e = k) (hu : P.underlying t = some (.slice e))
    (hdec : ∀ n cs x, DataW.trod enc P W base spare held n e cs = some x → ∃ a, cs = f a ∧ Good a)
    (h : DataW.trod enc P W base spare held fuel t [v] = some x) :
    ∃ (A : Option Addr) (n cp : Nat) (l : List α), v = .slice A n cp ∧ n = l.length ∧ Rdk k W (.slice A n cp) n (l.flatMap f) ∧ (∀ a ∈ l, Good a) ∧ n ≤ 9223372036854775807 := by
  rcases open_slice hu h with ⟨hcs, _⟩ | ⟨a, len, cap, m, n, D, Pl, hcs, hb, hl, hm, hmm, _, hi⟩
  · cases hcs
    exact ⟨none, 0, 0, [], rfl, rfl, Rdk.nil k W, by simp, by omega⟩
  · cases hcs
    rw [hk] at hi
    have hlm : len ≤ m := by rw [hmm]; split <;> omega
    obtain ⟨l, hll, hR⟩ := list_of (R := fun i (x : α) => (∀ j, j < k → W.cell? ((a.add (i * k)).add j) = (f x)[j]?) ∧ Good x) len (fun i hlt => by
      obtain ⟨cs', hc, ht⟩ := hi i (by omega)
      obtain ⟨x, rfl, hg⟩ := hdec _ _ _ ht
      obtain ⟨_, _, hat⟩ := World.cells?_some hc
      exact ⟨x, hat, hg⟩)
    refine ⟨some a, len, cap, l, rfl, hll.symm, ⟨some a, cap, rfl, hl, by rw [flat_length hf, hll], fun h0 => ?_⟩, fun x hx => ?_, by unfold maxLen at hm; omega⟩
    · obtain ⟨x, hx0⟩ : ∃ x, l[0]? = some x := get_some (by omega)
      obtain ⟨u, hu0⟩ : ∃ u, (f x)[0]? = some u := get_some (by rw [hf]; exact hk0)
      obtain ⟨b, off, spot⟩ := a
      have h00 := (hR 0 x hx0).1 0 hk0
      rw [hu0] at h00
      have hspot : spot = none := by simpa [Addr.add] using World.cell?_spot h00
      subst hspot
      rw [addr_add, addr_add] at h00
      refine ⟨b, off, rfl, cell_there' h00, fun q u hq => ?_⟩
      obtain ⟨y, hy, hu⟩ := flat_at hf hk0 hq
      have := (hR _ y hy).1 (q % k) (Nat.mod_lt q hk0)
      rw [addr_add, addr_add, Nat.add_assoc, Nat.mul_comm (q / k) k, Nat.div_add_mod, hu] at this
      exact this
    · obtain ⟨i, hi⟩ := List.mem_iff_getElem?.1 hx
      exact (hR i x hi).2
section
variable {H : Type} {enc : TypeId × Value → H} {W : World} {base : Nat} {spare : Nat → Bool} {held : Bool}
variable {b0 : Nat} {r : Reach} {v : Value} {d : DataW H} {p : List MemPlace}
end
end Go.Proofs.YtcfcpbkeedfbpaaGreatDoor
