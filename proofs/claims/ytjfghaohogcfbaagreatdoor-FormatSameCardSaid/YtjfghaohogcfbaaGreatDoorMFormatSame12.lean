/- ScanRefOne, ScanRefToks, ScanProgSpec, ScanFirst, joined. -/
import Derived.Test.YtjfghaohogcfbaaGreatDoorMFormatSame11
import Derived.BigQuiet
import Derived.Deep.QuietTactic
import Derived.IntWalk
import Derived.Test.YtjfghaohogcfbaaGreatDoorMFormatSame01
import Derived.Deep.RegionHeld3
import Derived.Lib.Bytealg
import Derived.Lib.Strings
import Derived.Test.YtjfghaohogcfbaaGreatDoorShelf
namespace Go.Proofs.YtjfghaohogcfbaaGreatDoor
open Go.RowKit ScanSpec Go.BigFrame
set_option maxRecDepth 100000
theorem one_name {l:List UInt8} {i:Nat} (h:cls l i = 1):ScanSpec.one (l.drop i) = if 12 < run isWord (l.drop i) then (0,0,5) else (1,run isWord (l.drop i),0):=by
 unfold ScanSpec.one; rw [cls_drop,Nat.add_zero,if_pos h]
theorem one_num {l:List UInt8} {i:Nat} (h:cls l i = 2):ScanSpec.one (l.drop i) = if cls l (i + run isNum (l.drop i)) = 1 ∨ cls l (i + run isNum (l.drop i)) = 3 then (0,0,2) else if 9 < run isNum (l.drop i) then (0,0,5) else (2,run isNum (l.drop i),0):=by
 unfold ScanSpec.one; rw [cls_drop,Nat.add_zero,if_neg (by rw [h]; decide),if_pos h,cls_drop]
theorem one_mark {l:List UInt8} {i:Nat} (h1:¬ cls l i = 1) (h2:¬ cls l i = 2):ScanSpec.one (l.drop i) = if markLen (l.drop i) = 0 then (0,0,2) else (3,markLen (l.drop i),0):=by
 unfold ScanSpec.one; rw [cls_drop,Nat.add_zero,if_neg h1,if_neg h2]
theorem find_hit {α:Type} {p:α → Bool}:∀ {l:List α} {j:Nat} {x:α},l[j]? = some x → (∀ y ∈ l.take j,p y = false) → p x = true → l.find? p = some x
 | [],_,_,h,_,_ => by simp at h
 | a :: t,0,x,h,_,hx => by
   simp at h; subst h; simp [hx]
 | a :: t,j + 1,x,h,hn,hx => by
   have ha:p a = false:=hn a (by simp)
   rw [List.find?_cons,ha]
   exact find_hit (j:=j) (by simpa using h) (fun y hy => hn y (by simp [hy])) hx
theorem mark_hit {d:List UInt8} {j:Nat} {m:List UInt8} (h:marks[j]? = some m) (hn:∀ y ∈ marks.take j,y.isPrefixOf d = false) (hm:m.isPrefixOf d = true):markLen d = m.length:=by
 unfold markLen; rw [find_hit (p:=fun m => m.isPrefixOf d) h hn hm]
end Go.Proofs.YtjfghaohogcfbaaGreatDoor
namespace Go.Proofs.YtjfghaohogcfbaaGreatDoor
open Go.RowKit ScanSpec
set_option maxRecDepth 100000
theorem info_tok:(Tryz.prog.info? 84).map (fun i => (i.zero,i.size,i.bytes)) = some (some (.agg #[.int .i64 0,.string ByteArray.empty,.int .i64 0,.int .i64 0]),4,40):=by kernel_rfl
def tokV (s:ByteArray) (t:Tok):List Value:=[.int .i64 t.kind,.string (s.extract t.at_ (t.at_ + t.len)),.int .i64 (pos s.data.toList t.at_).1,.int .i64 (pos s.data.toList t.at_).2]
def toksV (s:ByteArray) (l:List Tok):List Value:=l.flatMap (tokV s)
theorem toksV_snoc (s:ByteArray) (l:List Tok) (t:Tok):toksV s l ++ tokV s t = toksV s (l ++ [t]):=by simp [toksV]
def scanT (l:List UInt8):List Tok × Nat × Int:=if 65536 < l.length then ([],0,5) else scan l
theorem one_bd (d:List UInt8) (hd:0 < d.length):((ScanSpec.one d).2.2 = 0 → 1 ≤ (ScanSpec.one d).2.1 ∧ (ScanSpec.one d).2.1 ≤ d.length) ∧ ((ScanSpec.one d).2.2 = 0 ∨ (ScanSpec.one d).2.2 = 2 ∨ (ScanSpec.one d).2.2 = 5) ∧ (0 ≤ (ScanSpec.one d).1 ∧ (ScanSpec.one d).1 ≤ 3):=by
 obtain ⟨c,hc⟩:∃ c,d[0]? = some c:=get_some hd
 have hd0:d.drop 0 = d:=rfl
 have hml:markLen d ≤ d.length:=by
  unfold markLen
  cases hf:marks.find? fun m => m.isPrefixOf d with
  | none => simp
  | some m =>
    have:=List.find?_some hf
    rw [List.isPrefixOf_iff_prefix] at this
    exact this.length_le
 unfold ScanSpec.one
 split
 ·rename_i h1
  have hp:0 < run isWord d:=by
   have:=run_pos (p:=isWord) (l:=d) (i:=0) hc (by rw [cls_some hc] at h1; simp [isWord,h1])
   rwa [hd0] at this
  have:=run_le isWord d
  split <;> simp <;> omega
 ·split
  ·rename_i h1 h2
   have hp:0 < run isNum d:=by
    have:=run_pos (p:=isNum) (l:=d) (i:=0) hc (by rw [cls_some hc] at h2; simp [isNum,h2])
    rwa [hd0] at this
   have:=run_le isNum d
   split
   ·simp
   ·split <;> simp <;> omega
  ·split <;> simp <;> omega
theorem scanGo_end {l:List UInt8} {f i:Nat} {acc:List Tok} (h:l.length ≤ i):scanGo l f i acc = (acc ++ [⟨0,i,0⟩],0,0):=by
 cases f with
 | zero => rfl
 | succ f => rw [scanGo,if_pos h]
theorem scanGo_err {l:List UInt8} {f i:Nat} {acc:List Tok} (h:i < l.length) (he:(ScanSpec.one (l.drop i)).2.2 ≠ 0):scanGo l (f + 1) i acc = ([],i,(ScanSpec.one (l.drop i)).2.2):=by
 rw [scanGo,if_neg (by omega)]
 simp only [if_pos he]
theorem scanGo_full {l:List UInt8} {f i:Nat} {acc:List Tok} (h:i < l.length) (he:(ScanSpec.one (l.drop i)).2.2 = 0) (hf:acc.length = 4000):scanGo l (f + 1) i acc = ([],i,8):=by
 rw [scanGo,if_neg (by omega)]
 simp [he,hf]
theorem scanGo_next {l:List UInt8} {f i:Nat} {acc:List Tok} (h:i < l.length) (he:(ScanSpec.one (l.drop i)).2.2 = 0) (hf:acc.length ≠ 4000) :
 scanGo l (f + 1) i acc = scanGo l f (gap l (i + (ScanSpec.one (l.drop i)).2.1)) (acc ++ [⟨(ScanSpec.one (l.drop i)).1,i,(ScanSpec.one (l.drop i)).2.1⟩]):=by
 rw [scanGo,if_neg (by omega)]
 simp [he,hf]
def TokPost (W:World) (s:ByteArray) (e:Ending) (w':World):Prop :=
 Below W.heap.size W w' ∧
 ((scanT s.data.toList).2.2 ≠ 0 → e = .returned (.tuple #[.slice none 0 0,.agg #[.int .i64 (pos s.data.toList (scanT s.data.toList).2.1).1,.int .i64 (pos s.data.toList (scanT s.data.toList).2.1).2],.int .i64 (scanT s.data.toList).2.2])) ∧
 ((scanT s.data.toList).2.2 = 0 → ∃ v,e = .returned (.tuple #[v,.agg #[.int .i64 0,.int .i64 0],.int .i64 0]) ∧ Rdk 4 w' v (scanT s.data.toList).1.length (toksV s (scanT s.data.toList).1))
theorem tok_bad {W w':World} {s:ByteArray} {i:Nat} {er:Int} (hb:Below W.heap.size W w') (h:scanT s.data.toList = ([],i,er)) (hne:er ≠ 0) :
 TokPost W s (.returned (.tuple #[.slice none 0 0,.agg #[.int .i64 (pos s.data.toList i).1,.int .i64 (pos s.data.toList i).2],.int .i64 er])) w' :=
 ⟨hb,fun _ => by rw [h],fun h' => by rw [h] at h'; exact absurd h' hne⟩
def endC (s:ByteArray) (i:Nat):List Value:=[.int .i64 0,.string ByteArray.empty,.int .i64 (pos s.data.toList i).1,.int .i64 (pos s.data.toList i).2]
theorem endC_eq (s:ByteArray) (i:Nat):endC s i = tokV s ⟨0,i,0⟩:=by
 have e:s.extract i (i + 0) = ByteArray.empty:=by
  apply ByteArray.ext
  simp
 unfold endC tokV
 rw [e]
theorem tok_end {W w4:World} {s:ByteArray} {i f n gg cap4:Nat} {acc:List Tok} {u v:Value} (hS:scanT s.data.toList = scan s.data.toList) (hN:acc.length = n) (hGo:scanGo s.data.toList f i acc = scan s.data.toList) (hge:s.size ≤ i)
 (hown4:w4.ownsRow (W.heap.size + 1) 84 4 (.slice (some ⟨gg,0,none⟩) (n + 1) cap4) (n + 1) (toksV s acc ++ endC s i)) (hb4:Below W.heap.size W w4) :
 TokPost W s (.returned (.tuple #[.slice (some ⟨gg,0,none⟩) (n + 1) cap4,.agg #[.int .i64 0,.int .i64 0],.int .i64 0])) ((w4.setCell ⟨W.heap.size,0,none⟩ u).setCell ⟨W.heap.size,1,none⟩ v):=by
 have e:scanT s.data.toList = (acc ++ [⟨0,i,0⟩],0,0):=by rw [hS,← hGo,scanGo_end (by rw [size_list']; exact hge)]
 refine ⟨(hb4.setCell (Nat.le_refl _) _).setCell (Nat.le_refl _) _,fun h => by rw [e] at h; exact absurd rfl h,fun _ => ⟨_,rfl,?_⟩⟩
 rw [e]
 have h5:((w4.setCell ⟨W.heap.size,0,none⟩ u).setCell ⟨W.heap.size,1,none⟩ v).ownsRow (W.heap.size + 1) 84 4 (.slice (some ⟨gg,0,none⟩) (n + 1) cap4) (n + 1) (toksV s acc ++ endC s i) :=
  ownsRow_setCell_below (ownsRow_setCell_below hown4 (by simp) u) (by simp) v
 rw [endC_eq,toksV_snoc] at h5
 have hl:(acc ++ [(⟨0,i,0⟩:Tok)]).length = n + 1:=by simp [hN]
 rw [← hl] at h5
 have:=Rdk.own h5
 rwa [hl] at this ⊢
end Go.Proofs.YtjfghaohogcfbaaGreatDoor
namespace Go.Proofs.YtjfghaohogcfbaaGreatDoor
open Go.RowKit ScanSpec
def lowB (n:Int):Bool:=decide (97 ≤ n) && decide (n ≤ 122)
def digB (n:Int):Bool:=decide (48 ≤ n) && decide (n ≤ 57)
def wordB (n:Int):Bool:=(lowB n || digB n) || n == 95
theorem lowB_yes {n:Int} (h1:97 ≤ n) (h2:n ≤ 122):lowB n = true:=by simp [lowB,h1,h2]
theorem lowB_no {n:Int} (h:¬ (97 ≤ n ∧ n ≤ 122)):lowB n = false:=by simp [lowB]; omega
theorem digB_yes {n:Int} (h1:48 ≤ n) (h2:n ≤ 57):digB n = true:=by simp [digB,h1,h2]
theorem digB_no {n:Int} (h:¬ (48 ≤ n ∧ n ≤ 57)):digB n = false:=by simp [digB]; omega
theorem word_eq (c:UInt8):wordB (c.toNat:Int) = isWord c:=by
 rcases clsB_val c _ rfl with ⟨h1,h2,hc⟩ | ⟨h1,h2,hc⟩ | ⟨h1,hc⟩ | ⟨h1,hc⟩ | ⟨h1,hc⟩ | ⟨h1,n1,_,_,_,_,_,hc⟩
 all_goals
  unfold isWord wordB lowB digB
  rw [hc]
  rw [Bool.eq_iff_iff]
  simp
  omega
theorem dig_eq (c:UInt8):digB (c.toNat:Int) = isNum c:=by
 rcases clsB_val c _ rfl with ⟨h1,h2,hc⟩ | ⟨h1,h2,hc⟩ | ⟨h1,hc⟩ | ⟨h1,hc⟩ | ⟨h1,hc⟩ | ⟨h1,n1,_,_,_,_,_,hc⟩
 all_goals
  unfold isNum digB
  rw [hc]
  rw [Bool.eq_iff_iff]
  simp
  omega
theorem low_cls {l:List UInt8} {c:UInt8} (h:l[0]? = some c):lowB (c.toNat:Int) = decide (cls l 0 = 1):=by
 rw [cls_some h]
 rcases clsB_val c _ rfl with ⟨h1,h2,hc⟩ | ⟨h1,h2,hc⟩ | ⟨h1,hc⟩ | ⟨h1,hc⟩ | ⟨h1,hc⟩ | ⟨h1,n1,_,_,_,_,_,hc⟩
 all_goals
  unfold lowB
  rw [hc,Bool.eq_iff_iff]
  simp
  omega
theorem dig_cls {l:List UInt8} {c:UInt8} (h:l[0]? = some c):digB (c.toNat:Int) = decide (cls l 0 = 2):=by
 rw [cls_some h,dig_eq]; rfl
theorem num_then {l:List UInt8}:(cls l (run isNum l) = 1 ∨ cls l (run isNum l) = 3) ↔ ∃ c,l[run isNum l]? = some c ∧ isWord c = true:=by
 have hno:∀ c,l[run isNum l]? = some c → isNum c = false:=by
  induction l with
  | nil => simp
  | cons a t ih =>
    intro c hc
    rw [run] at hc
    split at hc
    ·exact ih c (by simpa using hc)
    ·rename_i h
     simp at hc; subst hc; simpa using h
 constructor
 ·intro h
  have h1:1 ≤ cls l (run isNum l):=by omega
  obtain ⟨c,hc,hw⟩:=isWord_cls h1 (by omega)
  exact ⟨c,hc,hw⟩
 ·rintro ⟨c,hc,hw⟩
  have hn:=hno c hc
  rw [cls_some hc]
  simp only [isWord,isNum,Bool.and_eq_true,decide_eq_true_eq,decide_eq_false_iff_not] at hw hn
  omega
def singlesL:List UInt8:=[123,125,91,93,40,41,44,59,61,60,62,43,45,42,47]
abbrev singlesS:ByteArray:=⟨#[123,125,91,93,40,41,44,59,61,60,62,43,45,42,47]⟩
theorem marks_parts:marks = marks.take 7 ++ singlesL.map (fun x => [x]):=by decide
theorem idx_cons (b c:UInt8) (l:List UInt8):0 ≤ Lib.indexByte (b :: l) c ↔ (b = c ∨ 0 ≤ Lib.indexByte l c):=by
 rw [Lib.indexByte]
 have:=Lib.indexByte_ge l c
 by_cases h:b = c
 ·subst h; simp
 ·have h':(b == c) = false:=by simpa using h
  rw [h']
  simp only [Bool.false_eq_true,if_false,h,false_or]
  split
  ·rename_i h1
   simp at h1
   omega
  ·rename_i h1
   simp at h1
   omega
theorem single_find (S:List UInt8) (c:UInt8) (t:List UInt8):((S.map fun x => [x]).find? fun m => m.isPrefixOf (c :: t)) = if 0 ≤ Lib.indexByte S c then some [c] else none:=by
 induction S with
 | nil => simp [Lib.indexByte]
 | cons b S ih =>
   rw [List.map_cons,List.find?_cons]
   by_cases h:b = c
   ·subst h
    rw [if_pos ((idx_cons b b S).2 (.inl rfl))]
    simp [List.isPrefixOf]
   ·have h':(b == c) = false:=by simpa using h
    have e:([b].isPrefixOf (c :: t)) = false:=by simp [List.isPrefixOf,h']
    rw [e]
    simp only
    rw [ih]
    by_cases h2:0 ≤ Lib.indexByte S c
    ·rw [if_pos h2,if_pos ((idx_cons b c S).2 (.inr h2))]
    ·rw [if_neg h2,if_neg (fun h3 => ((idx_cons b c S).1 h3).elim h h2)]
theorem markLen_single {c:UInt8} {t:List UInt8} (h:∀ y ∈ marks.take 7,y.isPrefixOf (c :: t) = false):markLen (c :: t) = if 0 ≤ Lib.indexByte singlesL c then 1 else 0:=by
 unfold markLen
 rw [marks_parts,List.find?_append,List.find?_eq_none.2 (fun y hy => by rw [h y hy]; simp),Option.none_or,single_find]
 split
 ·rename_i m hm
  split at hm
  ·rename_i h1
   cases hm
   rw [if_pos h1]; rfl
  ·cases hm
 ·rename_i hm
  split at hm
  ·cases hm
  ·rename_i h1
   rw [if_neg h1]
def notNl (c:UInt8):Bool:=!(c.toNat == 10)
theorem remark_len (l:List UInt8):(if 0 ≤ Lib.indexByte l 10 then Lib.indexByte l 10 else (l.length:Int)) = (run notNl l:Int):=by
 induction l with
 | nil => simp [Lib.indexByte,run]
 | cons b t ih =>
   rw [run,Lib.indexByte]
   have hge:=Lib.indexByte_ge t 10
   by_cases h:b = 10
   ·subst h
    simp [notNl]
   ·have h':(b == 10) = false:=by simpa using h
    have hn:b.toNat ≠ 10:=fun e => h (UInt8.toNat_inj.1 e)
    have hp:notNl b = true:=by simp [notNl,hn]
    rw [h',if_pos hp]
    have e:(if (Lib.indexByte t 10 == -1) = true then (-1:Int) else Lib.indexByte t 10 + 1) = if Lib.indexByte t 10 = -1 then -1 else Lib.indexByte t 10 + 1:=by
     by_cases h1:Lib.indexByte t 10 = -1
     ·rw [if_pos h1,if_pos (by simpa using h1)]
     ·rw [if_neg h1,if_neg (by simpa using h1)]
    simp only [Bool.false_eq_true,if_false,List.length_cons]
    rw [e]
    by_cases h1:Lib.indexByte t 10 = -1
    ·rw [if_pos h1]
     rw [if_neg (by omega)] at ih
     rw [if_neg (by decide)]
     omega
    ·rw [if_neg h1]
     rw [if_pos (by omega)] at ih
     rw [if_pos (by omega)]
     omega
theorem run_first {p:UInt8 → Bool} {l:List UInt8}:∀ j,j < run p l → ∃ c,l[j]? = some c ∧ p c = true:=by
 induction l with
 | nil => intro j h; simp [run] at h
 | cons a t ih =>
   intro j h
   rw [run] at h
   split at h
   ·rename_i ha
    cases j with
    | zero => exact ⟨a,rfl,ha⟩
    | succ j => exact ih j (by omega)
   ·omega
theorem run_end {p:UInt8 → Bool} {l:List UInt8} {c:UInt8} (h:l[run p l]? = some c):p c = false:=by
 induction l with
 | nil => simp at h
 | cons a t ih =>
   rw [run] at h
   split at h
   ·exact ih (by simpa using h)
   ·rename_i ha
    simp at h; subst h; simpa using ha
theorem pos_along {l:List UInt8} {j:Nat}:∀ n,(∀ k,k < n → ∃ c,l[j + k]? = some c ∧ c.toNat ≠ 10) → pos l (j + n) = ((pos l j).1,(pos l j).2 + n)
 | 0,_ => by simp
 | n + 1,h => by
   obtain ⟨c,hc,h10⟩:=h n (by omega)
   rw [← Nat.add_assoc,pos_next hc,if_neg h10,pos_along n (fun k hk => h k (by omega))]
   ext
   ·rfl
   ·simp; omega
theorem rem_run {l:List UInt8} {j:Nat}:∀ n,(∀ k,k < n → ∃ c,l[j + k]? = some c ∧ c.toNat ≠ 10) → rem l (j + n) = rem l j
 | 0,_ => rfl
 | n + 1,h => by
   obtain ⟨c,hc,h10⟩:=h n (by omega)
   rw [← Nat.add_assoc,rem_next hc h10,rem_run n (fun k hk => h k (by omega))]
theorem remark_bytes {l:List UInt8} {j:Nat}:∀ k,k < run notNl (l.drop j) → ∃ c,l[j + k]? = some c ∧ c.toNat ≠ 10:=by
 intro k hk
 obtain ⟨c,hc,hp⟩:=run_first k hk
 rw [List.getElem?_drop] at hc
 exact ⟨c,hc,by simpa [notNl] using hp⟩
theorem gap_past {l:List UInt8} {j:Nat} (h:cls l j = 5):gap l (j + run notNl (l.drop j)) = gap l j ∧ pos l (j + run notNl (l.drop j)) = ((pos l j).1,(pos l j).2 + (run notNl (l.drop j):Nat)):=by
 refine ⟨?_,pos_along _ remark_bytes⟩
 have h1:=rem_run _ (remark_bytes (l:=l) (j:=j))
 rw [← gap_remark h,← h1]
 rcases hc:l[j + run notNl (l.drop j)]? with _ | c
 ·exact (rem_end (List.getElem?_eq_none_iff.1 hc)).symm
 ·rw [← List.getElem?_drop] at hc
  have:=run_end hc
  rw [List.getElem?_drop] at hc
  exact (rem_line hc (by simpa [notNl] using this)).symm
theorem cls_5_run {l:List UInt8} {j:Nat} (h:cls l j = 5):1 ≤ run notNl (l.drop j):=by
 unfold cls at h
 split at h
 ·rename_i c hc
  exact run_pos hc (by simp [notNl,clsB_35 h])
 ·simp at h
theorem one_noline {l:List UInt8} {j ln:Nat} {kd:Int} (h:ScanSpec.one (l.drop j) = (kd,ln,0)):∀ k,k < ln → ∃ c,l[j + k]? = some c ∧ c.toNat ≠ 10:=by
 intro k hk
 have word:∀ {n:Nat},k < n → n = run isWord (l.drop j) → ∃ c,l[j + k]? = some c ∧ c.toNat ≠ 10:=by
  intro n hn e
  subst e
  obtain ⟨c,hc,hp⟩:=run_first k hn
  rw [List.getElem?_drop] at hc
  refine ⟨c,hc,fun e => ?_⟩
  rw [← word_eq,e] at hp
  exact absurd hp (by decide)
 have num:∀ {n:Nat},k < n → n = run isNum (l.drop j) → ∃ c,l[j + k]? = some c ∧ c.toNat ≠ 10:=by
  intro n hn e
  subst e
  obtain ⟨c,hc,hp⟩:=run_first k hn
  rw [List.getElem?_drop] at hc
  refine ⟨c,hc,fun e => ?_⟩
  rw [← dig_eq,e] at hp
  exact absurd hp (by decide)
 unfold ScanSpec.one at h
 split at h
 ·split at h
  ·cases h
  ·simp only [Prod.mk.injEq] at h
   exact word hk h.2.1.symm
 ·split at h
  ·split at h
   ·cases h
   ·split at h
    ·cases h
    ·simp only [Prod.mk.injEq] at h
     exact num hk h.2.1.symm
  ·split at h
   ·cases h
   ·simp only [Prod.mk.injEq] at h
    obtain ⟨-,h,-⟩:=h
    subst h
    unfold markLen at hk
    cases hf:marks.find? fun m => m.isPrefixOf (l.drop j) with
    | none => rw [hf] at hk; simp at hk
    | some m =>
      rw [hf] at hk
      have hm:=List.mem_of_find?_eq_some hf
      have hp:=List.find?_some hf
      rw [List.isPrefixOf_iff_prefix] at hp
      obtain ⟨t,ht⟩:=hp
      have hc:l[j + k]? = some m[k]:=by
       rw [← List.getElem?_drop,← ht,List.getElem?_append_left hk,List.getElem?_eq_getElem hk]
      have all:∀ y ∈ marks,∀ x ∈ y,x.toNat ≠ 10:=by decide
      exact ⟨_,hc,all m hm _ (List.getElem_mem hk)⟩
theorem txt_ne {s:ByteArray} (h:0 < s.size):s.toList.isEmpty = false:=by
 have e:s.toList.length = s.size:=by rw [ByteArray.toList_eq]; rfl
 cases h':s.toList with
 | nil => rw [h'] at e; simp at e; omega
 | cons a l => rfl
theorem extract_drop (s:ByteArray) (j:Nat):(s.extract j s.size).data.toList = s.data.toList.drop j:=by
 rw [ByteArray.data_extract,Array.toList_extract,List.extract_eq_take_drop]
 rw [List.take_of_length_le]
 rw [List.length_drop,size_list']
 exact Nat.le_refl _
theorem extract_extract (s:ByteArray) (j n:Nat):(s.extract j s.size).extract n (s.extract j s.size).size = s.extract (j + n) s.size:=by
 apply ByteArray.ext
 apply Array.toList_inj.mp
 rw [extract_drop,extract_drop,extract_drop,List.drop_drop]
theorem extract_head (s:ByteArray) (j n:Nat) (_h:j + n ≤ s.size):(s.extract j s.size).extract 0 n = s.extract j (j + n):=by
 apply ByteArray.ext
 apply Array.toList_inj.mp
 rw [ByteArray.data_extract,Array.toList_extract,List.extract_eq_take_drop,extract_drop,ByteArray.data_extract,Array.toList_extract,List.extract_eq_take_drop,List.drop_zero]
 congr 1
 omega
theorem extract_all (s:ByteArray):s.extract 0 s.size = s:=by
 apply ByteArray.ext
 apply Array.toList_inj.mp
 rw [extract_drop]; rfl
theorem extract_size' (s:ByteArray) (j:Nat):(s.extract j s.size).size = s.size - j:=by
 rw [← size_list',extract_drop,List.length_drop,size_list']
end Go.Proofs.YtjfghaohogcfbaaGreatDoor
namespace Go.Proofs.YtjfghaohogcfbaaGreatDoor
open Go.RowKit ScanSpec
set_option maxRecDepth 100000
theorem letter_any (n:Int) (w:World):Calls Tryz.prog 128 #[.int .u8 n] w fun e w' => e = .returned (.bool (lowB n)) ∧ w = w':=by
 by_cases h1:97 ≤ n
 ·by_cases h2:n ≤ 122
  ·have HV:=Lib.hid (lowB_yes h1 h2)
   go_enter Tryz.func128,Tryz.ntmps128
   go_wp2
   go_ret
   exact ⟨ret_bool HV.out.symm,rfl⟩
  ·have HV:=Lib.hid (lowB_no (n:=n) (by omega))
   have h2':decide (n ≤ 122) = false:=decide_eq_false h2
   clear h2
   go_enter Tryz.func128,Tryz.ntmps128
   go_wp2
   go_ret
   exact ⟨ret_bool HV.out.symm,rfl⟩
 ·have HV:=Lib.hid (lowB_no (n:=n) (by omega))
  have h1':decide (97 ≤ n) = false:=decide_eq_false h1
  clear h1
  go_enter Tryz.func128,Tryz.ntmps128
  go_wp2
  go_ret
  exact ⟨ret_bool HV.out.symm,rfl⟩
theorem digit_any (n:Int) (w:World):Calls Tryz.prog 130 #[.int .u8 n] w fun e w' => e = .returned (.bool (digB n)) ∧ w = w':=by
 by_cases h1:48 ≤ n
 ·by_cases h2:n ≤ 57
  ·have HV:=Lib.hid (digB_yes h1 h2)
   go_enter Tryz.func130,Tryz.ntmps130
   go_wp2
   go_ret
   exact ⟨ret_bool HV.out.symm,rfl⟩
  ·have HV:=Lib.hid (digB_no (n:=n) (by omega))
   have h2':decide (n ≤ 57) = false:=decide_eq_false h2
   clear h2
   go_enter Tryz.func130,Tryz.ntmps130
   go_wp2
   go_ret
   exact ⟨ret_bool HV.out.symm,rfl⟩
 ·have HV:=Lib.hid (digB_no (n:=n) (by omega))
  have h1':decide (48 ≤ n) = false:=decide_eq_false h1
  clear h1
  go_enter Tryz.func130,Tryz.ntmps130
  go_wp2
  go_ret
  exact ⟨ret_bool HV.out.symm,rfl⟩
theorem inName_any (n:Int) (w:World):Calls Tryz.prog 164 #[.int .u8 n] w fun e w' => e = .returned (.bool (wordB n)) ∧ w = w':=by
 have HW:Hid (wordB n = ((lowB n || digB n) || n == 95)):=Lib.hid rfl
 rcases hl:lowB n with _ | _
 ·rcases hd:digB n with _ | _
  ·have HL:=Lib.hid (fun w => letter_any n w)
   have HD:=Lib.hid (fun w => digit_any n w)
   rw [hl,hd] at HW
   rw [hl] at HL
   rw [hd] at HD
   clear hl hd
   go_enter Tryz.func164,Tryz.ntmps164
   go_wp2_with (first | (go_at_call 128; refine (HL.out _).mono ?_; rintro e w' ⟨rfl,rfl⟩) | (go_at_call 130; refine (HD.out _).mono ?_; rintro e w' ⟨rfl,rfl⟩))
   go_ret
   exact ⟨ret_bool (by rw [HW.out]; rfl),rfl⟩
  ·have HL:=Lib.hid (fun w => letter_any n w)
   have HD:=Lib.hid (fun w => digit_any n w)
   rw [hl,hd] at HW
   rw [hl] at HL
   rw [hd] at HD
   clear hl hd
   go_enter Tryz.func164,Tryz.ntmps164
   go_wp2_with (first | (go_at_call 128; refine (HL.out _).mono ?_; rintro e w' ⟨rfl,rfl⟩) | (go_at_call 130; refine (HD.out _).mono ?_; rintro e w' ⟨rfl,rfl⟩))
   go_ret
   exact ⟨ret_bool (by rw [HW.out]; rfl),rfl⟩
 ·have HL:=Lib.hid (fun w => letter_any n w)
  rw [hl] at HW HL
  clear hl
  go_enter Tryz.func164,Tryz.ntmps164
  go_wp2_with (go_at_call 128; refine (HL.out _).mono ?_; rintro e w' ⟨rfl,rfl⟩)
  go_ret
  exact ⟨ret_bool (by rw [HW.out]; rfl),rfl⟩
def RunSz (l:List UInt8) (p:UInt8 → Bool) (v:Value):Prop:=∃ k:Nat,k ≤ l.length ∧ v = .int .i64 k ∧ k + run p (l.drop k) = run p l
set_option maxHeartbeats 1000000 in
theorem run_word (s:ByteArray) (w:World) (hs:s.size ≤ 9223372036854775807) :
 Calls Tryz.prog 163 #[.string s,.func (.func 164) #[] #[]] w fun e w' => e = .returned (.int .i64 (run isWord s.data.toList)) ∧ w = w':=by
 have HF:=Lib.hid (fun (c:UInt8) (w:World) => (by rw [← word_eq]; exact inName_any _ w:Calls Tryz.prog 164 #[.int .u8 c.toNat] w fun e w' => e = .returned (.bool (isWord c)) ∧ w = w'))
 go_enter Tryz.func163,Tryz.ntmps163
 go_wp2
 go_loop [5] (fun v => RunSz s.data.toList isWord v) (fun v => s.size - (intOf v).toNat)
 case atStart => exact ⟨0,Nat.zero_le _,rfl,by simp⟩
 case round =>
  obtain ⟨k,hk,rfl,hr⟩:=hrel
  rw [size_list'] at hk
  have HR:=Lib.hid hr
  clear hr
  by_cases hlt:k < s.size
  ·have hck:=byte_at' s k hlt
   rcases hp:isWord s[k] with _ | _
   ·have HC:=Lib.hid (fun w => HF.out s[k] w)
    rw [hp] at HC
    have HE:Hid ((run isWord s.data.toList:Int) = (k:Int)):=Lib.hid (by
     have:=run_stop (p:=isWord) (l:=s.data.toList) (i:=k) (fun c hc => by rw [hck] at hc; cases hc; exact hp)
     have:=HR.out
     omega)
    clear hp hck
    go_wp2_with (go_at_call 164; refine (HC.out _).mono ?_; rintro e w' ⟨rfl,rfl⟩)
    go_ret
    exact ⟨ret_int HE.out.symm,rfl⟩
   ·have HC:=Lib.hid (fun w => HF.out s[k] w)
    rw [hp] at HC
    have HN:Hid (RunSz s.data.toList isWord (.int .i64 ((k:Int) + 1))):=Lib.hid ⟨k + 1,by rw [size_list']; omega,by simp,(run_next hck hp).trans HR.out⟩
    clear hp hck
    go_wp2_with (go_at_call 164; refine (HC.out _).mono ?_; rintro e w' ⟨rfl,rfl⟩)
    go_round
    case rel => exact HN.out
    case measure => simp [intOf]; omega
  ·have HE:Hid ((run isWord s.data.toList:Int) = (k:Int)):=Lib.hid (by
    have:=run_stop (p:=isWord) (l:=s.data.toList) (i:=k) (fun c hc => by have:=get_lt hc; rw [size_list'] at this; omega)
    have:=HR.out
    omega)
   have hd:decide (k < s.size) = false:=decide_eq_false hlt
   go_wp2_with fail
   go_ret
   exact ⟨ret_int HE.out.symm,rfl⟩
set_option maxHeartbeats 1000000 in
theorem run_num (s:ByteArray) (w:World) (hs:s.size ≤ 9223372036854775807) :
 Calls Tryz.prog 163 #[.string s,.func (.func 130) #[] #[]] w fun e w' => e = .returned (.int .i64 (run isNum s.data.toList)) ∧ w = w':=by
 have HF:=Lib.hid (fun (c:UInt8) (w:World) => (by rw [← dig_eq]; exact digit_any _ w:Calls Tryz.prog 130 #[.int .u8 c.toNat] w fun e w' => e = .returned (.bool (isNum c)) ∧ w = w'))
 go_enter Tryz.func163,Tryz.ntmps163
 go_wp2
 go_loop [5] (fun v => RunSz s.data.toList isNum v) (fun v => s.size - (intOf v).toNat)
 case atStart => exact ⟨0,Nat.zero_le _,rfl,by simp⟩
 case round =>
  obtain ⟨k,hk,rfl,hr⟩:=hrel
  rw [size_list'] at hk
  have HR:=Lib.hid hr
  clear hr
  by_cases hlt:k < s.size
  ·have hck:=byte_at' s k hlt
   rcases hp:isNum s[k] with _ | _
   ·have HC:=Lib.hid (fun w => HF.out s[k] w)
    rw [hp] at HC
    have HE:Hid ((run isNum s.data.toList:Int) = (k:Int)):=Lib.hid (by
     have:=run_stop (p:=isNum) (l:=s.data.toList) (i:=k) (fun c hc => by rw [hck] at hc; cases hc; exact hp)
     have:=HR.out
     omega)
    clear hp hck
    go_wp2_with (go_at_call 130; refine (HC.out _).mono ?_; rintro e w' ⟨rfl,rfl⟩)
    go_ret
    exact ⟨ret_int HE.out.symm,rfl⟩
   ·have HC:=Lib.hid (fun w => HF.out s[k] w)
    rw [hp] at HC
    have HN:Hid (RunSz s.data.toList isNum (.int .i64 ((k:Int) + 1))):=Lib.hid ⟨k + 1,by rw [size_list']; omega,by simp,(run_next hck hp).trans HR.out⟩
    clear hp hck
    go_wp2_with (go_at_call 130; refine (HC.out _).mono ?_; rintro e w' ⟨rfl,rfl⟩)
    go_round
    case rel => exact HN.out
    case measure => simp [intOf]; omega
  ·have HE:Hid ((run isNum s.data.toList:Int) = (k:Int)):=Lib.hid (by
    have:=run_stop (p:=isNum) (l:=s.data.toList) (i:=k) (fun c hc => by have:=get_lt hc; rw [size_list'] at this; omega)
    have:=HR.out
    omega)
   have hd:decide (k < s.size) = false:=decide_eq_false hlt
   go_wp2_with fail
   go_ret
   exact ⟨ret_int HE.out.symm,rfl⟩
end Go.Proofs.YtjfghaohogcfbaaGreatDoor