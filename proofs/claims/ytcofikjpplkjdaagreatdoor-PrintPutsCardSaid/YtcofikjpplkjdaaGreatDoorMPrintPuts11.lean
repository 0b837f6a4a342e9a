/- ScanProgSpec, ScanFirst, ScanMark, ScanNext, joined. -/
import Derived.Test.YtcofikjpplkjdaaGreatDoorMPrintPuts10
import Derived.Lib.Bytealg
import Derived.Lib.Strings
import Derived.Test.YtcofikjpplkjdaaGreatDoorMPrintPuts01
import Derived.RegionTactic
import Derived.ChangeAlike
import Derived.Deep.LoopGhost
namespace Go.Proofs.YtcofikjpplkjdaaGreatDoor
open Go.RowKit ScanSpec
def lowB (n:Int):Bool:=decide (97 ≤ n) && decide (n ≤ 122)
def digB (n:Int):Bool:=decide (48 ≤ n) && decide (n ≤ 57)
def wordB (n:Int):Bool:=(lowB n || digB n) || n == 95
theorem lowB_yes {n:Int} (h1:97 ≤ n) (h2:n ≤ 122):lowB n = true:=by simp [lowB,h1,h2]
theorem lowB_no {n:Int} (h:¬ (97 ≤ n ∧ n ≤ 122)):lowB n = false:=by simp [lowB]; omega
theorem digB_yes {n:Int} (h1:48 ≤ n) (h2:n ≤ 57):digB n = true:=by simp [digB,h1,h2]
theorem digB_no {n:Int} (h:¬ (48 ≤ n ∧ n ≤ 57)):digB n = false:=by simp [digB]; omega
theorem word_eq (c:UInt8):wordB (c.toNat:Int) = isWord c:=by
 rcases clsB_val c _ rfl with ⟨h1,h2,hc⟩ | ⟨h1,h2,hc⟩ | ⟨h1,hc⟩ | ⟨h1,hc⟩ | ⟨h1,hc⟩ | ⟨h1,n1,_,_,_,_,_,hc⟩
 all_goals
  unfold isWord wordB lowB digB
  rw [hc]
  rw [Bool.eq_iff_iff]
  simp
  omega
theorem dig_eq (c:UInt8):digB (c.toNat:Int) = isNum c:=by
 rcases clsB_val c _ rfl with ⟨h1,h2,hc⟩ | ⟨h1,h2,hc⟩ | ⟨h1,hc⟩ | ⟨h1,hc⟩ | ⟨h1,hc⟩ | ⟨h1,n1,_,_,_,_,_,hc⟩
 all_goals
  unfold isNum digB
  rw [hc]
  rw [Bool.eq_iff_iff]
  simp
  omega
theorem low_cls {l:List UInt8} {c:UInt8} (h:l[0]? = some c):lowB (c.toNat:Int) = decide (cls l 0 = 1):=by
 rw [cls_some h]
 rcases clsB_val c _ rfl with ⟨h1,h2,hc⟩ | ⟨h1,h2,hc⟩ | ⟨h1,hc⟩ | ⟨h1,hc⟩ | ⟨h1,hc⟩ | ⟨h1,n1,_,_,_,_,_,hc⟩
 all_goals
  unfold lowB
  rw [hc,Bool.eq_iff_iff]
  simp
  omega
theorem dig_cls {l:List UInt8} {c:UInt8} (h:l[0]? = some c):digB (c.toNat:Int) = decide (cls l 0 = 2):=by
 rw [cls_some h,dig_eq]; rfl
theorem num_then {l:List UInt8}:(cls l (run isNum l) = 1 ∨ cls l (run isNum l) = 3) ↔ ∃ c,l[run isNum l]? = some c ∧ isWord c = true:=by
 have hno:∀ c,l[run isNum l]? = some c → isNum c = false:=by
  induction l with
  | nil => simp
  | cons a t ih =>
    intro c hc
    rw [run] at hc
    split at hc
    ·exact ih c (by simpa using hc)
    ·rename_i h
     simp at hc; subst hc; simpa using h
 constructor
 ·intro h
  have h1:1 ≤ cls l (run isNum l):=by omega
  obtain ⟨c,hc,hw⟩:=isWord_cls h1 (by omega)
  exact ⟨c,hc,hw⟩
 ·rintro ⟨c,hc,hw⟩
  have hn:=hno c hc
  rw [cls_some hc]
  simp only [isWord,isNum,Bool.and_eq_true,decide_eq_true_eq,decide_eq_false_iff_not] at hw hn
  omega
def singlesL:List UInt8:=[123,125,91,93,40,41,44,59,61,60,62,43,45,42,47]
abbrev singlesS:ByteArray:=⟨#[123,125,91,93,40,41,44,59,61,60,62,43,45,42,47]⟩
theorem marks_parts:marks = marks.take 7 ++ singlesL.map (fun x => [x]):=by decide
theorem idx_cons (b c:UInt8) (l:List UInt8):0 ≤ Lib.indexByte (b :: l) c ↔ (b = c ∨ 0 ≤ Lib.indexByte l c):=by
 rw [Lib.indexByte]
 have:=Lib.indexByte_ge l c
 by_cases h:b = c
 ·subst h; simp
 ·have h':(b == c) = false:=by simpa using h
  rw [h']
  simp only [Bool.false_eq_true,if_false,h,false_or]
  split
  ·rename_i h1
   simp at h1
   omega
  ·rename_i h1
   simp at h1
   omega
theorem single_find (S:List UInt8) (c:UInt8) (t:List UInt8):((S.map fun x => [x]).find? fun m => m.isPrefixOf (c :: t)) = if 0 ≤ Lib.indexByte S c then some [c] else none:=by
 induction S with
 | nil => simp [Lib.indexByte]
 | cons b S ih =>
   rw [List.map_cons,List.find?_cons]
   by_cases h:b = c
   ·subst h
    rw [if_pos ((idx_cons b b S).2 (.inl rfl))]
    simp [List.isPrefixOf]
   ·have h':(b == c) = false:=by simpa using h
    have e:([b].isPrefixOf (c :: t)) = false:=by simp [List.isPrefixOf,h']
    rw [e]
    simp only
    rw [ih]
    by_cases h2:0 ≤ Lib.indexByte S c
    ·rw [if_pos h2,if_pos ((idx_cons b c S).2 (.inr h2))]
    ·rw [if_neg h2,if_neg (fun h3 => ((idx_cons b c S).1 h3).elim h h2)]
theorem markLen_single {c:UInt8} {t:List UInt8} (h:∀ y ∈ marks.take 7,y.isPrefixOf (c :: t) = false):markLen (c :: t) = if 0 ≤ Lib.indexByte singlesL c then 1 else 0:=by
 unfold markLen
 rw [marks_parts,List.find?_append,List.find?_eq_none.2 (fun y hy => by rw [h y hy]; simp),Option.none_or,single_find]
 split
 ·rename_i m hm
  split at hm
  ·rename_i h1
   cases hm
   rw [if_pos h1]; rfl
  ·cases hm
 ·rename_i hm
  split at hm
  ·cases hm
  ·rename_i h1
   rw [if_neg h1]
def notNl (c:UInt8):Bool:=!(c.toNat == 10)
theorem remark_len (l:List UInt8):(if 0 ≤ Lib.indexByte l 10 then Lib.indexByte l 10 else (l.length:Int)) = (run notNl l:Int):=by
 induction l with
 | nil => simp [Lib.indexByte,run]
 | cons b t ih =>
   rw [run,Lib.indexByte]
   have hge:=Lib.indexByte_ge t 10
   by_cases h:b = 10
   ·subst h
    simp [notNl]
   ·have h':(b == 10) = false:=by simpa using h
    have hn:b.toNat ≠ 10:=fun e => h (UInt8.toNat_inj.1 e)
    have hp:notNl b = true:=by simp [notNl,hn]
    rw [h',if_pos hp]
    have e:(if (Lib.indexByte t 10 == -1) = true then (-1:Int) else Lib.indexByte t 10 + 1) = if Lib.indexByte t 10 = -1 then -1 else Lib.indexByte t 10 + 1:=by
     by_cases h1:Lib.indexByte t 10 = -1
     ·rw [if_pos h1,if_pos (by simpa using h1)]
     ·rw [if_neg h1,if_neg (by simpa using h1)]
    simp only [Bool.false_eq_true,if_false,List.length_cons]
    rw [e]
    by_cases h1:Lib.indexByte t 10 = -1
    ·rw [if_pos h1]
     rw [if_neg (by omega)] at ih
     rw [if_neg (by decide)]
     omega
    ·rw [if_neg h1]
     rw [if_pos (by omega)] at ih
     rw [if_pos (by omega)]
     omega
theorem run_first {p:UInt8 → Bool} {l:List UInt8}:∀ j,j < run p l → ∃ c,l[j]? = some c ∧ p c = true:=by
 induction l with
 | nil => intro j h; simp [run] at h
 | cons a t ih =>
   intro j h
   rw [run] at h
   split at h
   ·rename_i ha
    cases j with
    | zero => exact ⟨a,rfl,ha⟩
    | succ j => exact ih j (by omega)
   ·omega
theorem run_end {p:UInt8 → Bool} {l:List UInt8} {c:UInt8} (h:l[run p l]? = some c):p c = false:=by
 induction l with
 | nil => simp at h
 | cons a t ih =>
   rw [run] at h
   split at h
   ·exact ih (by simpa using h)
   ·rename_i ha
    simp at h; subst h; simpa using ha
theorem pos_along {l:List UInt8} {j:Nat}:∀ n,(∀ k,k < n → ∃ c,l[j + k]? = some c ∧ c.toNat ≠ 10) → pos l (j + n) = ((pos l j).1,(pos l j).2 + n)
 | 0,_ => by simp
 | n + 1,h => by
   obtain ⟨c,hc,h10⟩:=h n (by omega)
   rw [← Nat.add_assoc,pos_next hc,if_neg h10,pos_along n (fun k hk => h k (by omega))]
   ext
   ·rfl
   ·simp; omega
theorem rem_run {l:List UInt8} {j:Nat}:∀ n,(∀ k,k < n → ∃ c,l[j + k]? = some c ∧ c.toNat ≠ 10) → rem l (j + n) = rem l j
 | 0,_ => rfl
 | n + 1,h => by
   obtain ⟨c,hc,h10⟩:=h n (by omega)
   rw [← Nat.add_assoc,rem_next hc h10,rem_run n (fun k hk => h k (by omega))]
theorem remark_bytes {l:List UInt8} {j:Nat}:∀ k,k < run notNl (l.drop j) → ∃ c,l[j + k]? = some c ∧ c.toNat ≠ 10:=by
 intro k hk
 obtain ⟨c,hc,hp⟩:=run_first k hk
 rw [List.getElem?_drop] at hc
 exact ⟨c,hc,by simpa [notNl] using hp⟩
theorem gap_past {l:List UInt8} {j:Nat} (h:cls l j = 5):gap l (j + run notNl (l.drop j)) = gap l j ∧ pos l (j + run notNl (l.drop j)) = ((pos l j).1,(pos l j).2 + (run notNl (l.drop j):Nat)):=by
 refine ⟨?_,pos_along _ remark_bytes⟩
 have h1:=rem_run _ (remark_bytes (l:=l) (j:=j))
 rw [← gap_remark h,← h1]
 rcases hc:l[j + run notNl (l.drop j)]? with _ | c
 ·exact (rem_end (List.getElem?_eq_none_iff.1 hc)).symm
 ·rw [← List.getElem?_drop] at hc
  have:=run_end hc
  rw [List.getElem?_drop] at hc
  exact (rem_line hc (by simpa [notNl] using this)).symm
theorem cls_5_run {l:List UInt8} {j:Nat} (h:cls l j = 5):1 ≤ run notNl (l.drop j):=by
 unfold cls at h
 split at h
 ·rename_i c hc
  exact run_pos hc (by simp [notNl,clsB_35 h])
 ·simp at h
theorem one_noline {l:List UInt8} {j ln:Nat} {kd:Int} (h:ScanSpec.one (l.drop j) = (kd,ln,0)):∀ k,k < ln → ∃ c,l[j + k]? = some c ∧ c.toNat ≠ 10:=by
 intro k hk
 have word:∀ {n:Nat},k < n → n = run isWord (l.drop j) → ∃ c,l[j + k]? = some c ∧ c.toNat ≠ 10:=by
  intro n hn e
  subst e
  obtain ⟨c,hc,hp⟩:=run_first k hn
  rw [List.getElem?_drop] at hc
  refine ⟨c,hc,fun e => ?_⟩
  rw [← word_eq,e] at hp
  exact absurd hp (by decide)
 have num:∀ {n:Nat},k < n → n = run isNum (l.drop j) → ∃ c,l[j + k]? = some c ∧ c.toNat ≠ 10:=by
  intro n hn e
  subst e
  obtain ⟨c,hc,hp⟩:=run_first k hn
  rw [List.getElem?_drop] at hc
  refine ⟨c,hc,fun e => ?_⟩
  rw [← dig_eq,e] at hp
  exact absurd hp (by decide)
 unfold ScanSpec.one at h
 split at h
 ·split at h
  ·cases h
  ·simp only [Prod.mk.injEq] at h
   exact word hk h.2.1.symm
 ·split at h
  ·split at h
   ·cases h
   ·split at h
    ·cases h
    ·simp only [Prod.mk.injEq] at h
     exact num hk h.2.1.symm
  ·split at h
   ·cases h
   ·simp only [Prod.mk.injEq] at h
    obtain ⟨-,h,-⟩:=h
    subst h
    unfold markLen at hk
    cases hf:marks.find? fun m => m.isPrefixOf (l.drop j) with
    | none => rw [hf] at hk; simp at hk
    | some m =>
      rw [hf] at hk
      have hm:=List.mem_of_find?_eq_some hf
      have hp:=List.find?_some hf
      rw [List.isPrefixOf_iff_prefix] at hp
      obtain ⟨t,ht⟩:=hp
      have hc:l[j + k]? = some m[k]:=by
       rw [← List.getElem?_drop,← ht,List.getElem?_append_left hk,List.getElem?_eq_getElem hk]
      have all:∀ y ∈ marks,∀ x ∈ y,x.toNat ≠ 10:=by decide
      exact ⟨_,hc,all m hm _ (List.getElem_mem hk)⟩
theorem txt_ne {s:ByteArray} (h:0 < s.size):s.toList.isEmpty = false:=by
 have e:s.toList.length = s.size:=by rw [ByteArray.toList_eq]; rfl
 cases h':s.toList with
 | nil => rw [h'] at e; simp at e; omega
 | cons a l => rfl
theorem extract_drop (s:ByteArray) (j:Nat):(s.extract j s.size).data.toList = s.data.toList.drop j:=by
 rw [ByteArray.data_extract,Array.toList_extract,List.extract_eq_take_drop]
 rw [List.take_of_length_le]
 rw [List.length_drop,size_list']
 exact Nat.le_refl _
theorem extract_extract (s:ByteArray) (j n:Nat):(s.extract j s.size).extract n (s.extract j s.size).size = s.extract (j + n) s.size:=by
 apply ByteArray.ext
 apply Array.toList_inj.mp
 rw [extract_drop,extract_drop,extract_drop,List.drop_drop]
theorem extract_head (s:ByteArray) (j n:Nat) (_h:j + n ≤ s.size):(s.extract j s.size).extract 0 n = s.extract j (j + n):=by
 apply ByteArray.ext
 apply Array.toList_inj.mp
 rw [ByteArray.data_extract,Array.toList_extract,List.extract_eq_take_drop,extract_drop,ByteArray.data_extract,Array.toList_extract,List.extract_eq_take_drop,List.drop_zero]
 congr 1
 omega
theorem extract_all (s:ByteArray):s.extract 0 s.size = s:=by
 apply ByteArray.ext
 apply Array.toList_inj.mp
 rw [extract_drop]; rfl
theorem extract_size' (s:ByteArray) (j:Nat):(s.extract j s.size).size = s.size - j:=by
 rw [← size_list',extract_drop,List.length_drop,size_list']
end Go.Proofs.YtcofikjpplkjdaaGreatDoor
namespace Go.Proofs.YtcofikjpplkjdaaGreatDoor
open Go.RowKit ScanSpec
set_option maxRecDepth 100000
theorem letter_any (n:Int) (w:World):Calls Tryz.prog 118 #[.int .u8 n] w fun e w' => e = .returned (.bool (lowB n)) ∧ w = w':=by
 by_cases h1:97 ≤ n
 ·by_cases h2:n ≤ 122
  ·have HV:=Lib.hid (lowB_yes h1 h2)
   go_enter Tryz.func118,Tryz.ntmps118
   go_wp2
   go_ret
   exact ⟨ret_bool HV.out.symm,rfl⟩
  ·have HV:=Lib.hid (lowB_no (n:=n) (by omega))
   have h2':decide (n ≤ 122) = false:=decide_eq_false h2
   clear h2
   go_enter Tryz.func118,Tryz.ntmps118
   go_wp2
   go_ret
   exact ⟨ret_bool HV.out.symm,rfl⟩
 ·have HV:=Lib.hid (lowB_no (n:=n) (by omega))
  have h1':decide (97 ≤ n) = false:=decide_eq_false h1
  clear h1
  go_enter Tryz.func118,Tryz.ntmps118
  go_wp2
  go_ret
  exact ⟨ret_bool HV.out.symm,rfl⟩
theorem digit_any (n:Int) (w:World):Calls Tryz.prog 120 #[.int .u8 n] w fun e w' => e = .returned (.bool (digB n)) ∧ w = w':=by
 by_cases h1:48 ≤ n
 ·by_cases h2:n ≤ 57
  ·have HV:=Lib.hid (digB_yes h1 h2)
   go_enter Tryz.func120,Tryz.ntmps120
   go_wp2
   go_ret
   exact ⟨ret_bool HV.out.symm,rfl⟩
  ·have HV:=Lib.hid (digB_no (n:=n) (by omega))
   have h2':decide (n ≤ 57) = false:=decide_eq_false h2
   clear h2
   go_enter Tryz.func120,Tryz.ntmps120
   go_wp2
   go_ret
   exact ⟨ret_bool HV.out.symm,rfl⟩
 ·have HV:=Lib.hid (digB_no (n:=n) (by omega))
  have h1':decide (48 ≤ n) = false:=decide_eq_false h1
  clear h1
  go_enter Tryz.func120,Tryz.ntmps120
  go_wp2
  go_ret
  exact ⟨ret_bool HV.out.symm,rfl⟩
theorem inName_any (n:Int) (w:World):Calls Tryz.prog 144 #[.int .u8 n] w fun e w' => e = .returned (.bool (wordB n)) ∧ w = w':=by
 have HW:Hid (wordB n = ((lowB n || digB n) || n == 95)):=Lib.hid rfl
 rcases hl:lowB n with _ | _
 ·rcases hd:digB n with _ | _
  ·have HL:=Lib.hid (fun w => letter_any n w)
   have HD:=Lib.hid (fun w => digit_any n w)
   rw [hl,hd] at HW
   rw [hl] at HL
   rw [hd] at HD
   clear hl hd
   go_enter Tryz.func144,Tryz.ntmps144
   go_wp2_with (first | (go_at_call 118; refine (HL.out _).mono ?_; rintro e w' ⟨rfl,rfl⟩) | (go_at_call 120; refine (HD.out _).mono ?_; rintro e w' ⟨rfl,rfl⟩))
   go_ret
   exact ⟨ret_bool (by rw [HW.out]; rfl),rfl⟩
  ·have HL:=Lib.hid (fun w => letter_any n w)
   have HD:=Lib.hid (fun w => digit_any n w)
   rw [hl,hd] at HW
   rw [hl] at HL
   rw [hd] at HD
   clear hl hd
   go_enter Tryz.func144,Tryz.ntmps144
   go_wp2_with (first | (go_at_call 118; refine (HL.out _).mono ?_; rintro e w' ⟨rfl,rfl⟩) | (go_at_call 120; refine (HD.out _).mono ?_; rintro e w' ⟨rfl,rfl⟩))
   go_ret
   exact ⟨ret_bool (by rw [HW.out]; rfl),rfl⟩
 ·have HL:=Lib.hid (fun w => letter_any n w)
  rw [hl] at HW HL
  clear hl
  go_enter Tryz.func144,Tryz.ntmps144
  go_wp2_with (go_at_call 118; refine (HL.out _).mono ?_; rintro e w' ⟨rfl,rfl⟩)
  go_ret
  exact ⟨ret_bool (by rw [HW.out]; rfl),rfl⟩
def RunSz (l:List UInt8) (p:UInt8 → Bool) (v:Value):Prop:=∃ k:Nat,k ≤ l.length ∧ v = .int .i64 k ∧ k + run p (l.drop k) = run p l
set_option maxHeartbeats 1000000 in
theorem run_word (s:ByteArray) (w:World) (hs:s.size ≤ 9223372036854775807) :
 Calls Tryz.prog 143 #[.string s,.func (.func 144) #[] #[]] w fun e w' => e = .returned (.int .i64 (run isWord s.data.toList)) ∧ w = w':=by
 have HF:=Lib.hid (fun (c:UInt8) (w:World) => (by rw [← word_eq]; exact inName_any _ w:Calls Tryz.prog 144 #[.int .u8 c.toNat] w fun e w' => e = .returned (.bool (isWord c)) ∧ w = w'))
 go_enter Tryz.func143,Tryz.ntmps143
 go_wp2
 go_loop [5] (fun v => RunSz s.data.toList isWord v) (fun v => s.size - (intOf v).toNat)
 case atStart => exact ⟨0,Nat.zero_le _,rfl,by simp⟩
 case round =>
  obtain ⟨k,hk,rfl,hr⟩:=hrel
  rw [size_list'] at hk
  have HR:=Lib.hid hr
  clear hr
  by_cases hlt:k < s.size
  ·have hck:=byte_at' s k hlt
   rcases hp:isWord s[k] with _ | _
   ·have HC:=Lib.hid (fun w => HF.out s[k] w)
    rw [hp] at HC
    have HE:Hid ((run isWord s.data.toList:Int) = (k:Int)):=Lib.hid (by
     have:=run_stop (p:=isWord) (l:=s.data.toList) (i:=k) (fun c hc => by rw [hck] at hc; cases hc; exact hp)
     have:=HR.out
     omega)
    clear hp hck
    go_wp2_with (go_at_call 144; refine (HC.out _).mono ?_; rintro e w' ⟨rfl,rfl⟩)
    go_ret
    exact ⟨ret_int HE.out.symm,rfl⟩
   ·have HC:=Lib.hid (fun w => HF.out s[k] w)
    rw [hp] at HC
    have HN:Hid (RunSz s.data.toList isWord (.int .i64 ((k:Int) + 1))):=Lib.hid ⟨k + 1,by rw [size_list']; omega,by simp,(run_next hck hp).trans HR.out⟩
    clear hp hck
    go_wp2_with (go_at_call 144; refine (HC.out _).mono ?_; rintro e w' ⟨rfl,rfl⟩)
    go_round
    case rel => exact HN.out
    case measure => simp [intOf]; omega
  ·have HE:Hid ((run isWord s.data.toList:Int) = (k:Int)):=Lib.hid (by
    have:=run_stop (p:=isWord) (l:=s.data.toList) (i:=k) (fun c hc => by have:=get_lt hc; rw [size_list'] at this; omega)
    have:=HR.out
    omega)
   have hd:decide (k < s.size) = false:=decide_eq_false hlt
   go_wp2_with fail
   go_ret
   exact ⟨ret_int HE.out.symm,rfl⟩
set_option maxHeartbeats 1000000 in
theorem run_num (s:ByteArray) (w:World) (hs:s.size ≤ 9223372036854775807) :
 Calls Tryz.prog 143 #[.string s,.func (.func 120) #[] #[]] w fun e w' => e = .returned (.int .i64 (run isNum s.data.toList)) ∧ w = w':=by
 have HF:=Lib.hid (fun (c:UInt8) (w:World) => (by rw [← dig_eq]; exact digit_any _ w:Calls Tryz.prog 120 #[.int .u8 c.toNat] w fun e w' => e = .returned (.bool (isNum c)) ∧ w = w'))
 go_enter Tryz.func143,Tryz.ntmps143
 go_wp2
 go_loop [5] (fun v => RunSz s.data.toList isNum v) (fun v => s.size - (intOf v).toNat)
 case atStart => exact ⟨0,Nat.zero_le _,rfl,by simp⟩
 case round =>
  obtain ⟨k,hk,rfl,hr⟩:=hrel
  rw [size_list'] at hk
  have HR:=Lib.hid hr
  clear hr
  by_cases hlt:k < s.size
  ·have hck:=byte_at' s k hlt
   rcases hp:isNum s[k] with _ | _
   ·have HC:=Lib.hid (fun w => HF.out s[k] w)
    rw [hp] at HC
    have HE:Hid ((run isNum s.data.toList:Int) = (k:Int)):=Lib.hid (by
     have:=run_stop (p:=isNum) (l:=s.data.toList) (i:=k) (fun c hc => by rw [hck] at hc; cases hc; exact hp)
     have:=HR.out
     omega)
    clear hp hck
    go_wp2_with (go_at_call 120; refine (HC.out _).mono ?_; rintro e w' ⟨rfl,rfl⟩)
    go_ret
    exact ⟨ret_int HE.out.symm,rfl⟩
   ·have HC:=Lib.hid (fun w => HF.out s[k] w)
    rw [hp] at HC
    have HN:Hid (RunSz s.data.toList isNum (.int .i64 ((k:Int) + 1))):=Lib.hid ⟨k + 1,by rw [size_list']; omega,by simp,(run_next hck hp).trans HR.out⟩
    clear hp hck
    go_wp2_with (go_at_call 120; refine (HC.out _).mono ?_; rintro e w' ⟨rfl,rfl⟩)
    go_round
    case rel => exact HN.out
    case measure => simp [intOf]; omega
  ·have HE:Hid ((run isNum s.data.toList:Int) = (k:Int)):=Lib.hid (by
    have:=run_stop (p:=isNum) (l:=s.data.toList) (i:=k) (fun c hc => by have:=get_lt hc; rw [size_list'] at this; omega)
    have:=HR.out
    omega)
   have hd:decide (k < s.size) = false:=decide_eq_false hlt
   go_wp2_with fail
   go_ret
   exact ⟨ret_int HE.out.symm,rfl⟩
end Go.Proofs.YtcofikjpplkjdaaGreatDoor
namespace Go.Proofs.YtcofikjpplkjdaaGreatDoor
open Go.RowKit ScanSpec
set_option maxRecDepth 100000
def pairsV:Array Value:=#[.string ⟨#[45,62]⟩,.string ⟨#[58,61]⟩,.string ⟨#[60,61]⟩,.string ⟨#[62,61]⟩,.string ⟨#[33,61]⟩,.string ⟨#[61,61]⟩,.string ⟨#[46,46]⟩]
def PairsIn (w:World):Prop:=∃ T fr,w.heap[0]? = some (.cells pairsV T fr)
theorem PairsIn.pos {w:World} (h:PairsIn w):0 < w.heap.size:=by
 obtain ⟨T,fr,h⟩:=h
 exact (Array.getElem?_eq_some_iff.1 h).1
theorem PairsIn.keep {w w':World} (h:PairsIn w) (hb:Below w.heap.size w w'):PairsIn w':=by
 have hp:=h.pos
 obtain ⟨T,fr,h⟩:=h
 exact ⟨T,fr,(hb.block _ hp).trans h⟩
theorem PairsIn.alloc {w:World} (h:PairsIn w) (o:Obj):PairsIn (w.alloc o):=h.keep ((Below.refl _ _).alloc (Nat.le_refl _) _)
theorem PairsIn.cell {w:World} (h:PairsIn w) {i:Nat} {v:Value} (hi:pairsV[i]? = some v):w.cell? ⟨0,i,none⟩ = some v:=by
 obtain ⟨T,fr,h⟩:=h
 simp [World.cell?,h,hi]
theorem byte_u8 (c:UInt8):((c.toNat:Int)).toNat.toUInt8 = c:=by simp
def PairRel (d:List UInt8) (v:Value):Prop:=∃ j:Int,0 ≤ j ∧ j ≤ 7 ∧ v = .int .i64 j ∧ ∀ y ∈ marks.take j.toNat,y.isPrefixOf d = false
def MarkPost (d:List UInt8) (w:World) (e:Ending) (w':World):Prop :=
 ∃ kd ln er:Int,(kd,ln,er) = (if markLen d = 0 then (0,0,2) else (3,(markLen d:Int),0)) ∧ e = .returned (.tuple #[.int .i64 kd,.int .i64 ln,.int .i64 er]) ∧ w = w'
theorem pair_next {d:List UInt8} {n:Nat} {m:List UInt8} (h:∀ y ∈ marks.take n,y.isPrefixOf d = false) (hm:marks[n]? = some m) (hf:m.isPrefixOf d = false):∀ y ∈ marks.take (n + 1),y.isPrefixOf d = false:=by
 intro y hy
 rw [take_next hm,List.mem_append,List.mem_singleton] at hy
 rcases hy with hy | rfl
 ·exact h y hy
 ·exact hf
theorem pair_hit {d:List UInt8} {w:World} {n:Nat} {m:List UInt8} (h:∀ y ∈ marks.take n,y.isPrefixOf d = false) (hm:marks[n]? = some m) (hf:m.isPrefixOf d = true) (hl:m.length = 2) :
 MarkPost d w (.returned (.tuple #[.int .i64 3,.int .i64 2,.int .i64 0])) w:=by
 have:=mark_hit hm h hf
 refine ⟨_,_,_,?_,rfl,rfl⟩
 rw [this,hl]; rfl
set_option maxHeartbeats 4000000 in
theorem mark_any (s:ByteArray) (w:World) (hp:PairsIn w) (h0:0 < s.size) (_hs:s.size ≤ 9223372036854775807) :
 Calls Tryz.prog 122 #[.string s] w (MarkPost s.data.toList w):=by
 have c0:w.cell? ⟨0,0,none⟩ = some (.string ⟨#[45,62]⟩):=hp.cell (i:=0) rfl
 have c1:w.cell? ⟨0,1,none⟩ = some (.string ⟨#[58,61]⟩):=hp.cell (i:=1) rfl
 have c2:w.cell? ⟨0,2,none⟩ = some (.string ⟨#[60,61]⟩):=hp.cell (i:=2) rfl
 have c3:w.cell? ⟨0,3,none⟩ = some (.string ⟨#[62,61]⟩):=hp.cell (i:=3) rfl
 have c4:w.cell? ⟨0,4,none⟩ = some (.string ⟨#[33,61]⟩):=hp.cell (i:=4) rfl
 have c5:w.cell? ⟨0,5,none⟩ = some (.string ⟨#[61,61]⟩):=hp.cell (i:=5) rfl
 have c6:w.cell? ⟨0,6,none⟩ = some (.string ⟨#[46,46]⟩):=hp.cell (i:=6) rfl
 have hp0:=hp.pos
 go_enter Tryz.func122,Tryz.ntmps122
 go_wp2_with fail
 clear c0 c1 c2 c3 c4 c5 c6
 go_loop [8] (fun v => PairRel s.data.toList v) (fun v => 7 - (intOf v).toNat)
 case atStart => exact ⟨0,by omega,by omega,rfl,by simp⟩
 case round =>
  obtain ⟨j,hj0,hj7,rfl,hno⟩:=hrel
  have HN:=Lib.hid hno
  clear hno
  rcases (show j = 0 ∨ j = 1 ∨ j = 2 ∨ j = 3 ∨ j = 4 ∨ j = 5 ∨ j = 6 ∨ j = 7 by omega) with rfl | rfl | rfl | rfl | rfl | rfl | rfl | rfl
  ·have hx:∀ w:World,(Instr.index 178 (.agg #[.string ⟨#[45,62]⟩,.string ⟨#[58,61]⟩,.string ⟨#[60,61]⟩,.string ⟨#[62,61]⟩,.string ⟨#[33,61]⟩,.string ⟨#[61,61]⟩,.string ⟨#[46,46]⟩]) (.int .i64 0)).run Tryz.prog w = .ok (.string ⟨#[45,62]⟩) w:=fun _ => by kernel_rfl
   have HC:=Lib.hid (fun w => Tryz.strings_HasPrefix s ⟨#[45,62]⟩ w)
   rcases hf:Lib.hasPrefix s.data.toList (⟨#[45,62]⟩:ByteArray).data.toList with _ | _
   ·have HR:Hid (PairRel s.data.toList (.int .i64 1)):=Lib.hid ⟨1,by omega,by omega,rfl,pair_next HN.out (m:=[45,62]) rfl hf⟩
    rw [hf] at HC
    clear hf
    go_wp2_with (go_at_call 110; refine (HC.out _).mono ?_; rintro e w' ⟨rfl,rfl⟩)
    go_round
    case rel => exact HR.out
    case measure => decide
   ·have HR:Hid (MarkPost s.data.toList w (.returned (.tuple #[.int .i64 3,.int .i64 2,.int .i64 0])) w):=Lib.hid (pair_hit HN.out (m:=[45,62]) rfl hf rfl)
    rw [hf] at HC
    clear hf
    go_wp2_with (go_at_call 110; refine (HC.out _).mono ?_; rintro e w' ⟨rfl,rfl⟩)
    go_ret3
    exact HR.out
  ·have hx:∀ w:World,(Instr.index 178 (.agg #[.string ⟨#[45,62]⟩,.string ⟨#[58,61]⟩,.string ⟨#[60,61]⟩,.string ⟨#[62,61]⟩,.string ⟨#[33,61]⟩,.string ⟨#[61,61]⟩,.string ⟨#[46,46]⟩]) (.int .i64 1)).run Tryz.prog w = .ok (.string ⟨#[58,61]⟩) w:=fun _ => by kernel_rfl
   have HC:=Lib.hid (fun w => Tryz.strings_HasPrefix s ⟨#[58,61]⟩ w)
   rcases hf:Lib.hasPrefix s.data.toList (⟨#[58,61]⟩:ByteArray).data.toList with _ | _
   ·have HR:Hid (PairRel s.data.toList (.int .i64 2)):=Lib.hid ⟨2,by omega,by omega,rfl,pair_next HN.out (m:=[58,61]) rfl hf⟩
    rw [hf] at HC
    clear hf
    go_wp2_with (go_at_call 110; refine (HC.out _).mono ?_; rintro e w' ⟨rfl,rfl⟩)
    go_round
    case rel => exact HR.out
    case measure => decide
   ·have HR:Hid (MarkPost s.data.toList w (.returned (.tuple #[.int .i64 3,.int .i64 2,.int .i64 0])) w):=Lib.hid (pair_hit HN.out (m:=[58,61]) rfl hf rfl)
    rw [hf] at HC
    clear hf
    go_wp2_with (go_at_call 110; refine (HC.out _).mono ?_; rintro e w' ⟨rfl,rfl⟩)
    go_ret3
    exact HR.out
  ·have hx:∀ w:World,(Instr.index 178 (.agg #[.string ⟨#[45,62]⟩,.string ⟨#[58,61]⟩,.string ⟨#[60,61]⟩,.string ⟨#[62,61]⟩,.string ⟨#[33,61]⟩,.string ⟨#[61,61]⟩,.string ⟨#[46,46]⟩]) (.int .i64 2)).run Tryz.prog w = .ok (.string ⟨#[60,61]⟩) w:=fun _ => by kernel_rfl
   have HC:=Lib.hid (fun w => Tryz.strings_HasPrefix s ⟨#[60,61]⟩ w)
   rcases hf:Lib.hasPrefix s.data.toList (⟨#[60,61]⟩:ByteArray).data.toList with _ | _
   ·have HR:Hid (PairRel s.data.toList (.int .i64 3)):=Lib.hid ⟨3,by omega,by omega,rfl,pair_next HN.out (m:=[60,61]) rfl hf⟩
    rw [hf] at HC
    clear hf
    go_wp2_with (go_at_call 110; refine (HC.out _).mono ?_; rintro e w' ⟨rfl,rfl⟩)
    go_round
    case rel => exact HR.out
    case measure => decide
   ·have HR:Hid (MarkPost s.data.toList w (.returned (.tuple #[.int .i64 3,.int .i64 2,.int .i64 0])) w):=Lib.hid (pair_hit HN.out (m:=[60,61]) rfl hf rfl)
    rw [hf] at HC
    clear hf
    go_wp2_with (go_at_call 110; refine (HC.out _).mono ?_; rintro e w' ⟨rfl,rfl⟩)
    go_ret3
    exact HR.out
  ·have hx:∀ w:World,(Instr.index 178 (.agg #[.string ⟨#[45,62]⟩,.string ⟨#[58,61]⟩,.string ⟨#[60,61]⟩,.string ⟨#[62,61]⟩,.string ⟨#[33,61]⟩,.string ⟨#[61,61]⟩,.string ⟨#[46,46]⟩]) (.int .i64 3)).run Tryz.prog w = .ok (.string ⟨#[62,61]⟩) w:=fun _ => by kernel_rfl
   have HC:=Lib.hid (fun w => Tryz.strings_HasPrefix s ⟨#[62,61]⟩ w)
   rcases hf:Lib.hasPrefix s.data.toList (⟨#[62,61]⟩:ByteArray).data.toList with _ | _
   ·have HR:Hid (PairRel s.data.toList (.int .i64 4)):=Lib.hid ⟨4,by omega,by omega,rfl,pair_next HN.out (m:=[62,61]) rfl hf⟩
    rw [hf] at HC
    clear hf
    go_wp2_with (go_at_call 110; refine (HC.out _).mono ?_; rintro e w' ⟨rfl,rfl⟩)
    go_round
    case rel => exact HR.out
    case measure => decide
   ·have HR:Hid (MarkPost s.data.toList w (.returned (.tuple #[.int .i64 3,.int .i64 2,.int .i64 0])) w):=Lib.hid (pair_hit HN.out (m:=[62,61]) rfl hf rfl)
    rw [hf] at HC
    clear hf
    go_wp2_with (go_at_call 110; refine (HC.out _).mono ?_; rintro e w' ⟨rfl,rfl⟩)
    go_ret3
    exact HR.out
  ·have hx:∀ w:World,(Instr.index 178 (.agg #[.string ⟨#[45,62]⟩,.string ⟨#[58,61]⟩,.string ⟨#[60,61]⟩,.string ⟨#[62,61]⟩,.string ⟨#[33,61]⟩,.string ⟨#[61,61]⟩,.string ⟨#[46,46]⟩]) (.int .i64 4)).run Tryz.prog w = .ok (.string ⟨#[33,61]⟩) w:=fun _ => by kernel_rfl
   have HC:=Lib.hid (fun w => Tryz.strings_HasPrefix s ⟨#[33,61]⟩ w)
   rcases hf:Lib.hasPrefix s.data.toList (⟨#[33,61]⟩:ByteArray).data.toList with _ | _
   ·have HR:Hid (PairRel s.data.toList (.int .i64 5)):=Lib.hid ⟨5,by omega,by omega,rfl,pair_next HN.out (m:=[33,61]) rfl hf⟩
    rw [hf] at HC
    clear hf
    go_wp2_with (go_at_call 110; refine (HC.out _).mono ?_; rintro e w' ⟨rfl,rfl⟩)
    go_round
    case rel => exact HR.out
    case measure => decide
   ·have HR:Hid (MarkPost s.data.toList w (.returned (.tuple #[.int .i64 3,.int .i64 2,.int .i64 0])) w):=Lib.hid (pair_hit HN.out (m:=[33,61]) rfl hf rfl)
    rw [hf] at HC
    clear hf
    go_wp2_with (go_at_call 110; refine (HC.out _).mono ?_; rintro e w' ⟨rfl,rfl⟩)
    go_ret3
    exact HR.out
  ·have hx:∀ w:World,(Instr.index 178 (.agg #[.string ⟨#[45,62]⟩,.string ⟨#[58,61]⟩,.string ⟨#[60,61]⟩,.string ⟨#[62,61]⟩,.string ⟨#[33,61]⟩,.string ⟨#[61,61]⟩,.string ⟨#[46,46]⟩]) (.int .i64 5)).run Tryz.prog w = .ok (.string ⟨#[61,61]⟩) w:=fun _ => by kernel_rfl
   have HC:=Lib.hid (fun w => Tryz.strings_HasPrefix s ⟨#[61,61]⟩ w)
   rcases hf:Lib.hasPrefix s.data.toList (⟨#[61,61]⟩:ByteArray).data.toList with _ | _
   ·have HR:Hid (PairRel s.data.toList (.int .i64 6)):=Lib.hid ⟨6,by omega,by omega,rfl,pair_next HN.out (m:=[61,61]) rfl hf⟩
    rw [hf] at HC
    clear hf
    go_wp2_with (go_at_call 110; refine (HC.out _).mono ?_; rintro e w' ⟨rfl,rfl⟩)
    go_round
    case rel => exact HR.out
    case measure => decide
   ·have HR:Hid (MarkPost s.data.toList w (.returned (.tuple #[.int .i64 3,.int .i64 2,.int .i64 0])) w):=Lib.hid (pair_hit HN.out (m:=[61,61]) rfl hf rfl)
    rw [hf] at HC
    clear hf
    go_wp2_with (go_at_call 110; refine (HC.out _).mono ?_; rintro e w' ⟨rfl,rfl⟩)
    go_ret3
    exact HR.out
  ·have hx:∀ w:World,(Instr.index 178 (.agg #[.string ⟨#[45,62]⟩,.string ⟨#[58,61]⟩,.string ⟨#[60,61]⟩,.string ⟨#[62,61]⟩,.string ⟨#[33,61]⟩,.string ⟨#[61,61]⟩,.string ⟨#[46,46]⟩]) (.int .i64 6)).run Tryz.prog w = .ok (.string ⟨#[46,46]⟩) w:=fun _ => by kernel_rfl
   have HC:=Lib.hid (fun w => Tryz.strings_HasPrefix s ⟨#[46,46]⟩ w)
   rcases hf:Lib.hasPrefix s.data.toList (⟨#[46,46]⟩:ByteArray).data.toList with _ | _
   ·have HR:Hid (PairRel s.data.toList (.int .i64 7)):=Lib.hid ⟨7,by omega,by omega,rfl,pair_next HN.out (m:=[46,46]) rfl hf⟩
    rw [hf] at HC
    clear hf
    go_wp2_with (go_at_call 110; refine (HC.out _).mono ?_; rintro e w' ⟨rfl,rfl⟩)
    go_round
    case rel => exact HR.out
    case measure => decide
   ·have HR:Hid (MarkPost s.data.toList w (.returned (.tuple #[.int .i64 3,.int .i64 2,.int .i64 0])) w):=Lib.hid (pair_hit HN.out (m:=[46,46]) rfl hf rfl)
    rw [hf] at HC
    clear hf
    go_wp2_with (go_at_call 110; refine (HC.out _).mono ?_; rintro e w' ⟨rfl,rfl⟩)
    go_ret3
    exact HR.out
  ·have HC:=Lib.hid (fun w => Tryz.strings_IndexByte singlesS (s[0].toNat:Int) w)
   have hl:s.data.toList = s[0] :: s.data.toList.drop 1:=by
    have:=drop_next (byte_at' s 0 h0)
    simpa using this
   have hm:markLen s.data.toList = if (0:Int) ≤ Lib.indexByte singlesS.data.toList (s[0].toNat:Int).toNat.toUInt8 then 1 else 0:=by
    have h7:∀ y ∈ marks.take 7,y.isPrefixOf s.data.toList = false:=HN.out
    rw [hl] at h7 ⊢
    rw [markLen_single h7,byte_u8]; rfl
   have HM:=Lib.hid hm
   clear hm hl
   obtain ⟨x,hx⟩:∃ x,x = Lib.indexByte singlesS.data.toList (s[0].toNat:Int).toNat.toUInt8:=⟨_,rfl⟩
   rw [← hx] at HC HM
   clear hx
   by_cases hge:0 ≤ x
   ·have HR:Hid (MarkPost s.data.toList w (.returned (.tuple #[.int .i64 3,.int .i64 1,.int .i64 0])) w):=Lib.hid ⟨3,1,0,by rw [HM.out,if_pos hge]; rfl,rfl,rfl⟩
    go_wp2_with (go_at_call 142; (with_reducible refine (HC.out _).mono ?_); rintro e w' ⟨rfl,rfl⟩)
    go_ret3
    exact HR.out
   ·have HR:Hid (MarkPost s.data.toList w (.returned (.tuple #[.int .i64 0,.int .i64 0,.int .i64 2])) w):=Lib.hid ⟨0,0,2,by rw [HM.out,if_neg hge]; rfl,rfl,rfl⟩
    have hlt:x < 0:=by omega
    clear hge
    go_wp2_with (go_at_call 142; (with_reducible refine (HC.out _).mono ?_); rintro e w' ⟨rfl,rfl⟩)
    go_ret3
    exact HR.out
def FirstPost (d:List UInt8) (w:World) (e:Ending) (w':World):Prop :=
 ∃ kd er:Int,∃ ln:Nat,(kd,ln,er) = ScanSpec.one d ∧ e = .returned (.tuple #[.int .i64 kd,.int .i64 ln,.int .i64 er]) ∧ w = w'
theorem name_any (s:ByteArray) (w:World) (h1:cls s.data.toList 0 = 1) (hs:s.size ≤ 9223372036854775807):Calls Tryz.prog 119 #[.string s] w (FirstPost s.data.toList w):=by
 have HO:=Lib.hid (one_name (l:=s.data.toList) (i:=0) h1)
 rw [List.drop_zero] at HO
 have HC:=Lib.hid (fun w => run_word s w hs)
 have hrl:=run_le isWord s.data.toList
 rw [size_list'] at hrl
 obtain ⟨n,hn⟩:∃ n,n = run isWord s.data.toList:=⟨_,rfl⟩
 rw [← hn] at HO HC hrl
 clear hn h1
 by_cases hb:12 < n
 ·have HR:Hid (FirstPost s.data.toList w (.returned (.tuple #[.int .i64 0,.int .i64 0,.int .i64 5])) w):=Lib.hid ⟨0,5,0,(HO.out.trans (if_pos hb)).symm,rfl,rfl⟩
  have hbI:12 < (n:Int):=by omega
  go_enter Tryz.func119,Tryz.ntmps119
  go_wp2_with (go_at_call 143; (with_reducible refine (HC.out _).mono ?_); rintro e w' ⟨rfl,rfl⟩)
  go_ret3
  exact HR.out
 ·have HR:Hid (FirstPost s.data.toList w (.returned (.tuple #[.int .i64 1,.int .i64 n,.int .i64 0])) w):=Lib.hid ⟨1,0,n,(HO.out.trans (if_neg hb)).symm,rfl,rfl⟩
  have hbI:(n:Int) ≤ 12:=by omega
  go_enter Tryz.func119,Tryz.ntmps119
  go_wp2_with (go_at_call 143; (with_reducible refine (HC.out _).mono ?_); rintro e w' ⟨rfl,rfl⟩)
  go_ret3
  exact HR.out
set_option maxHeartbeats 1000000 in
theorem number_any (s:ByteArray) (w:World) (h1:cls s.data.toList 0 = 2) (hs:s.size ≤ 9223372036854775807):Calls Tryz.prog 121 #[.string s] w (FirstPost s.data.toList w):=by
 have HO:=Lib.hid (one_num (l:=s.data.toList) (i:=0) h1)
 rw [List.drop_zero,Nat.zero_add] at HO
 have HC:=Lib.hid (fun w => run_num s w hs)
 have hrl:=run_le isNum s.data.toList
 rw [size_list'] at hrl
 have HT:=Lib.hid (num_then (l:=s.data.toList))
 obtain ⟨n,hn⟩:∃ n,n = run isNum s.data.toList:=⟨_,rfl⟩
 rw [← hn] at HO HC hrl HT
 clear hn h1
 have HE:∀ hw:¬ (cls s.data.toList n = 1 ∨ cls s.data.toList n = 3),Hid (ScanSpec.one s.data.toList = if 9 < n then (0,0,5) else (2,n,0)):=fun hw => Lib.hid (HO.out.trans (if_neg hw))
 by_cases hlt:n < s.size
 ·have hb:=byte_at' s n hlt
  have HI:=Lib.hid (fun w => inName_any (s[n].toNat:Int) w)
  rcases hw:isWord s[n] with _ | _
  ·have HE':=HE (fun h => by
    obtain ⟨c,hc,hc'⟩:=HT.out.1 h
    rw [hb] at hc; cases hc
    rw [hw] at hc'; cases hc')
   rw [word_eq,hw] at HI
   clear hw hb HE
   by_cases h9:9 < n
   ·have HR:Hid (FirstPost s.data.toList w (.returned (.tuple #[.int .i64 0,.int .i64 0,.int .i64 5])) w):=Lib.hid ⟨0,5,0,(HE'.out.trans (if_pos h9)).symm,rfl,rfl⟩
    have hbI:9 < (n:Int):=by omega
    go_enter Tryz.func121,Tryz.ntmps121
    go_wp2_with (first | (go_at_call 143; (with_reducible refine (HC.out _).mono ?_); rintro e w' ⟨rfl,rfl⟩) | (go_at_call 144; (with_reducible refine (HI.out _).mono ?_); rintro e w' ⟨rfl,rfl⟩))
    go_ret3
    exact HR.out
   ·have HR:Hid (FirstPost s.data.toList w (.returned (.tuple #[.int .i64 2,.int .i64 n,.int .i64 0])) w):=Lib.hid ⟨2,0,n,(HE'.out.trans (if_neg h9)).symm,rfl,rfl⟩
    have hbI:(n:Int) ≤ 9:=by omega
    go_enter Tryz.func121,Tryz.ntmps121
    go_wp2_with (first | (go_at_call 143; (with_reducible refine (HC.out _).mono ?_); rintro e w' ⟨rfl,rfl⟩) | (go_at_call 144; (with_reducible refine (HI.out _).mono ?_); rintro e w' ⟨rfl,rfl⟩))
    go_ret3
    exact HR.out
  ·have HR:Hid (FirstPost s.data.toList w (.returned (.tuple #[.int .i64 0,.int .i64 0,.int .i64 2])) w):=Lib.hid ⟨0,2,0,(HO.out.trans (if_pos (HT.out.2 ⟨_,hb,hw⟩))).symm,rfl,rfl⟩
   rw [word_eq,hw] at HI
   clear hw hb HE
   go_enter Tryz.func121,Tryz.ntmps121
   go_wp2_with (first | (go_at_call 143; (with_reducible refine (HC.out _).mono ?_); rintro e w' ⟨rfl,rfl⟩) | (go_at_call 144; (with_reducible refine (HI.out _).mono ?_); rintro e w' ⟨rfl,rfl⟩))
   go_ret3
   exact HR.out
 ·have HE':=HE (fun h => by
   obtain ⟨c,hc,_⟩:=HT.out.1 h
   have:=get_lt hc
   rw [size_list'] at this
   omega)
  have hd:decide (n < s.size) = false:=decide_eq_false hlt
  clear HE
  by_cases h9:9 < n
  ·have HR:Hid (FirstPost s.data.toList w (.returned (.tuple #[.int .i64 0,.int .i64 0,.int .i64 5])) w):=Lib.hid ⟨0,5,0,(HE'.out.trans (if_pos h9)).symm,rfl,rfl⟩
   have hbI:9 < (n:Int):=by omega
   go_enter Tryz.func121,Tryz.ntmps121
   go_wp2_with (go_at_call 143; (with_reducible refine (HC.out _).mono ?_); rintro e w' ⟨rfl,rfl⟩)
   go_ret3
   exact HR.out
  ·have HR:Hid (FirstPost s.data.toList w (.returned (.tuple #[.int .i64 2,.int .i64 n,.int .i64 0])) w):=Lib.hid ⟨2,0,n,(HE'.out.trans (if_neg h9)).symm,rfl,rfl⟩
   have hbI:(n:Int) ≤ 9:=by omega
   go_enter Tryz.func121,Tryz.ntmps121
   go_wp2_with (go_at_call 143; (with_reducible refine (HC.out _).mono ?_); rintro e w' ⟨rfl,rfl⟩)
   go_ret3
   exact HR.out
theorem first_end (w:World):Calls Tryz.prog 80 #[.string ⟨#[]⟩] w fun e w' => e = .returned (.tuple #[.int .i64 0,.int .i64 0,.int .i64 0]) ∧ w = w':=by
 go_enter Tryz.func80,Tryz.ntmps80
 go_wp2_with fail
 go_ret3
 exact ⟨rfl,rfl⟩
set_option maxHeartbeats 1000000 in
theorem first_any (s:ByteArray) (w:World) (hp:PairsIn w) (h0:0 < s.size) (hs:s.size ≤ 9223372036854775807):Calls Tryz.prog 80 #[.string s] w (FirstPost s.data.toList w):=by
 have hb:=byte_at' s 0 h0
 have hne:=txt_ne h0
 have hne1:(s.toList == []) = false:=by cases h:s.toList with | nil => rw [h] at hne; cases hne | cons a l => rfl
 have hne2:¬ s.toList = []:=by intro h; rw [h] at hne; cases hne
 have HL:=Lib.hid (fun w => letter_any (s[0].toNat:Int) w)
 have HD:=Lib.hid (fun w => digit_any (s[0].toNat:Int) w)
 rw [low_cls hb] at HL
 rw [dig_cls hb] at HD
 clear hb
 by_cases h1:cls s.data.toList 0 = 1
 ·have HC:=Lib.hid (fun w => name_any s w h1 hs)
  rw [decide_eq_true h1] at HL
  clear h1 HD
  go_enter Tryz.func80,Tryz.ntmps80
  go_wp2_with (go_at_call 118; (with_reducible refine (HL.out _).mono ?_); rintro e w' ⟨rfl,rfl⟩)
  refine (HC.out _).mono ?_
  intro e w' h
  obtain ⟨kd,er,ln,hO,rfl,rfl⟩:=h
  have HR:Hid (FirstPost s.data.toList w (.returned (.tuple #[.int .i64 kd,.int .i64 ln,.int .i64 er])) w):=Lib.hid ⟨kd,er,ln,hO,rfl,rfl⟩
  clear hO
  go_wp2_with fail
  go_ret3
  exact HR.out
 ·rw [decide_eq_false h1] at HL
  by_cases h2:cls s.data.toList 0 = 2
  ·have HC:=Lib.hid (fun w => number_any s w h2 hs)
   rw [decide_eq_true h2] at HD
   clear h1 h2
   go_enter Tryz.func80,Tryz.ntmps80
   go_wp2_with (first | (go_at_call 118; (with_reducible refine (HL.out _).mono ?_); rintro e w' ⟨rfl,rfl⟩) | (go_at_call 120; (with_reducible refine (HD.out _).mono ?_); rintro e w' ⟨rfl,rfl⟩))
   refine (HC.out _).mono ?_
   intro e w' h
   obtain ⟨kd,er,ln,hO,rfl,rfl⟩:=h
   have HR:Hid (FirstPost s.data.toList w (.returned (.tuple #[.int .i64 kd,.int .i64 ln,.int .i64 er])) w):=Lib.hid ⟨kd,er,ln,hO,rfl,rfl⟩
   clear hO
   go_wp2_with fail
   go_ret3
   exact HR.out
  ·have HC:=Lib.hid (fun w hp => mark_any s w hp h0 hs)
   have HO:=Lib.hid (one_mark (l:=s.data.toList) (i:=0) h1 h2)
   rw [List.drop_zero] at HO
   rw [decide_eq_false h2] at HD
   clear h1 h2
   go_enter Tryz.func80,Tryz.ntmps80
   go_wp2_with (first | (go_at_call 118; (with_reducible refine (HL.out _).mono ?_); rintro e w' ⟨rfl,rfl⟩) | (go_at_call 120; (with_reducible refine (HD.out _).mono ?_); rintro e w' ⟨rfl,rfl⟩))
   refine (HC.out _ hp).mono ?_
   intro e w' h
   obtain ⟨kd,ln,er,hO,rfl,rfl⟩:=h
   have HR:Hid (FirstPost s.data.toList w (.returned (.tuple #[.int .i64 kd,.int .i64 ln,.int .i64 er])) w):=Lib.hid (by
    have h:=HO.out
    by_cases hz:markLen s.data.toList = 0
    ·rw [if_pos hz] at hO h
     cases hO
     exact ⟨0,2,0,h.symm,rfl,rfl⟩
    ·rw [if_neg hz] at hO h
     cases hO
     exact ⟨3,0,_,h.symm,rfl,rfl⟩)
   clear hO
   go_wp2_with fail
   go_ret3
   exact HR.out
theorem remark_any (s:ByteArray) (w:World) (_hs:s.size ≤ 9223372036854775807):Calls Tryz.prog 117 #[.string s] w fun e w' => e = .returned (.int .i64 (run notNl s.data.toList)) ∧ w = w':=by
 have HC:=Lib.hid (fun w => Tryz.strings_IndexByte s 10 w)
 have HL:=Lib.hid (remark_len s.data.toList)
 have e10:(10:Int).toNat.toUInt8 = 10:=rfl
 rw [e10] at HC
 obtain ⟨x,hx⟩:∃ x,x = Lib.indexByte s.data.toList 10:=⟨_,rfl⟩
 rw [← hx] at HC HL
 clear hx e10
 by_cases hge:0 ≤ x
 ·go_enter Tryz.func117,Tryz.ntmps117
  go_wp2_with (go_at_call 142; (with_reducible refine (HC.out _).mono ?_); rintro e w' ⟨rfl,rfl⟩)
  go_ret
  exact ⟨ret_int (by rw [← HL.out,if_pos hge]),rfl⟩
 ·have hlt:x < 0:=by omega
  have HE:Hid ((s.size:Int) = (run notNl s.data.toList:Int)):=Lib.hid (by rw [← HL.out,if_neg hge]; rfl)
  clear hge
  go_enter Tryz.func117,Tryz.ntmps117
  go_wp2_with (go_at_call 142; (with_reducible refine (HC.out _).mono ?_); rintro e w' ⟨rfl,rfl⟩)
  go_ret
  exact ⟨ret_int HE.out,rfl⟩
end Go.Proofs.YtcofikjpplkjdaaGreatDoor
namespace Go.Proofs.YtcofikjpplkjdaaGreatDoor
open Go.RowKit ScanSpec
set_option maxRecDepth 100000
def RdrAt (w:World) (B:Nat) (r:ByteArray) (a b:Int):Prop:=w.heap[B]? = some (.cells #[.string r,.int .i64 a,.int .i64 b] 90 (0,0))
theorem RdrAt.lt {w:World} {B:Nat} {r:ByteArray} {a b:Int} (h:RdrAt w B r a b):B < w.heap.size:=(Array.getElem?_eq_some_iff.1 h).1
def PassPost (w:World) (B:Nat) (r:ByteArray) (n:Nat) (a b:Int) (e:Ending) (w':World):Prop:=e = .returned (.tuple #[]) ∧ RdrAt w' B (r.extract n r.size) a (b + n) ∧ w.grownBy w' (some B)
set_option maxHeartbeats 1000000 in
theorem pass_any (B:Nat) (r:ByteArray) (n:Nat) (a b:Int) (w:World) (h:RdrAt w B r a b) (hn:n ≤ r.size) (hr:r.size ≤ 9223372036854775807) (hb0:0 ≤ b) (hb:b + n ≤ 9223372036854775807) :
 Calls Tryz.prog 81 #[.pointer (some ⟨B,0,none⟩),.int .i64 n] w (PassPost w B r n a b):=by
 have hI:(n:Int) ≤ (r.size:Int):=by omega
 have h1:RdrAt (w.setCell ⟨B,0,none⟩ (.string (r.extract n r.size))) B (r.extract n r.size) a b:=by
  have:=block_setCell' h 0 (.string (r.extract n r.size))
  exact this
 have h2:RdrAt ((w.setCell ⟨B,0,none⟩ (.string (r.extract n r.size))).setCell ⟨B,2,none⟩ (.int .i64 (b + n))) B (r.extract n r.size) a (b + n):=by
  have:=block_setCell' h1 2 (.int .i64 (b + n))
  exact this
 have c0:w.cell? ⟨B,0,none⟩ = some (.string r):=cell_of_block' h (i:=0) rfl
 have f0:=free_of_block' h 0
 have c2:(w.setCell ⟨B,0,none⟩ (.string (r.extract n r.size))).cell? ⟨B,2,none⟩ = some (.int .i64 b):=cell_of_block' h1 (i:=2) rfl
 have f2:=free_of_block' h1 2
 have HR:Hid (PassPost w B r n a b (.returned (.tuple #[])) ((w.setCell ⟨B,0,none⟩ (.string (r.extract n r.size))).setCell ⟨B,2,none⟩ (.int .i64 (b + n)))) :=
  Lib.hid ⟨rfl,h2,but_set (but_set (but_refl w _) 0 _) 2 _⟩
 clear h h1 h2
 go_enter Tryz.func81,Tryz.ntmps81
 go_wp2_with fail
 go_end0
 exact HR.out
def StandsAt (w:World) (B:Nat) (s:ByteArray) (j:Nat):Prop:=RdrAt w B (s.extract j s.size) (pos s.data.toList j).1 (pos s.data.toList j).2
theorem stands_on {w:World} {B:Nat} {s r:ByteArray} {j n:Nat} {a b:Int} (h:RdrAt w B (r.extract n r.size) a (b + n)) (hr:r = s.extract j s.size) (hp:pos s.data.toList (j + n) = (a,b + n)):StandsAt w B s (j + n):=by
 subst hr
 rw [extract_extract] at h
 unfold StandsAt
 rw [hp]
 exact h
def SkipRel (w:World) (B:Nat) (s:ByteArray) (i k:Nat) (wr:World):Prop :=
 ∃ j,j ≤ s.size ∧ k = s.size - j ∧ gap s.data.toList j = gap s.data.toList i ∧ StandsAt wr B s j ∧ w.grownBy wr (some B)
def SkipPost (w:World) (B:Nat) (s:ByteArray) (i:Nat) (e:Ending) (w':World):Prop:=e = .returned (.tuple #[]) ∧ StandsAt w' B s (gap s.data.toList i) ∧ w.grownBy w' (some B)
theorem skip_stop {w wr:World} {B i j k:Nat} {s:ByteArray} (_hk:k = s.size - j) (hg:gap s.data.toList j = gap s.data.toList i) (hR:StandsAt wr B s j) (hb:w.grownBy wr (some B)) (h4:¬ cls s.data.toList j = 4) (h5:¬ cls s.data.toList j = 5) :
 SkipPost w B s i (.returned (.tuple #[])) wr:=by
 rw [gap_stop h4 h5] at hg
 exact ⟨rfl,hg ▸ hR,hb⟩
theorem skip_blank {w wr w2:World} {B i j k:Nat} {s r:ByteArray} {a b:Int} (hj:j < s.size) (_hk:k = s.size - j) (hg:gap s.data.toList j = gap s.data.toList i) (hr:r = s.extract j s.size) (ha:(pos s.data.toList j) = (a,b)) (hb:w.grownBy wr (some B))
 (h4:cls s.data.toList j = 4) (h10:∀ c,s.data.toList[j]? = some c → c.toNat ≠ 10) (h:RdrAt w2 B (r.extract 1 r.size) a (b + (1:Nat))) (hb2:wr.grownBy w2 (some B)):SkipRel w B s i (s.size - (j + 1)) w2:=by
 refine ⟨j + 1,by omega,rfl,(gap_blank h4).trans hg,stands_on h hr ?_,but_trans hb hb2⟩
 have hc:=byte_at' s j hj
 rw [pos_next hc,if_neg (h10 _ hc),ha]; rfl
theorem skip_line {w wr w2:World} {B i j k:Nat} {s r:ByteArray} {a b:Int} (hj:j < s.size) (_hk:k = s.size - j) (hg:gap s.data.toList j = gap s.data.toList i) (hr:r = s.extract j s.size) (ha:(pos s.data.toList j) = (a,b)) (hb:w.grownBy wr (some B))
 (h4:cls s.data.toList j = 4) (h10:∀ c,s.data.toList[j]? = some c → c.toNat = 10) (h:RdrAt w2 B (r.extract 1 r.size) (a + 1) 1) (hb2:wr.grownBy w2 (some B)):SkipRel w B s i (s.size - (j + 1)) w2:=by
 refine ⟨j + 1,by omega,rfl,(gap_blank h4).trans hg,?_,but_trans hb hb2⟩
 have hc:=byte_at' s j hj
 unfold StandsAt
 rw [pos_next hc,if_pos (h10 _ hc),ha]
 subst hr
 rw [extract_extract] at h
 exact h
theorem skip_remark {w wr w2:World} {B i j k n:Nat} {s r:ByteArray} {a b:Int} (hj:j < s.size) (hk:k = s.size - j) (hg:gap s.data.toList j = gap s.data.toList i) (hr:r = s.extract j s.size) (ha:(pos s.data.toList j) = (a,b)) (hb:w.grownBy wr (some B))
 (h5:cls s.data.toList j = 5) (hn:n = run notNl r.data.toList) (h:RdrAt w2 B (r.extract n r.size) a (b + n)) (hb2:wr.grownBy w2 (some B)):SkipRel w B s i (s.size - (j + n)) w2 ∧ s.size - (j + n) < k:=by
 have h1:=gap_past h5
 have h2:=cls_5_run h5
 have e:run notNl (s.data.toList.drop j) = n:=by rw [hn,hr,extract_drop]
 rw [e] at h1 h2
 have hle:=run_le notNl (s.data.toList.drop j)
 rw [e,List.length_drop,size_list'] at hle
 exact ⟨⟨j + n,by omega,rfl,h1.1.trans hg,stands_on h hr (by rw [h1.2,ha]),but_trans hb hb2⟩,by omega⟩
set_option maxHeartbeats 4000000 in
theorem skip_any (B i:Nat) (s:ByteArray) (w:World) (hi:i ≤ s.size) (hs:s.size ≤ 9223372036854775800) (h:StandsAt w B s i):Calls Tryz.prog 79 #[.pointer (some ⟨B,0,none⟩)] w (SkipPost w B s i):=by
 have HS:=Lib.hid h
 clear h
 go_enter Tryz.func79,Tryz.ntmps79
 go_wp2_with fail
 go_loopg [6] (s.size - i) (fun k u wr => SkipRel w B s i k wr)
 case atStart => exact ⟨i,hi,rfl,rfl,HS.out,but_refl _ _⟩
 case round =>
  obtain ⟨j,hj,hk,hg,hR,hb⟩:=hrel
  have hpb:=pos_bd s.data.toList j
  obtain ⟨a,ha⟩:∃ a,a = (pos s.data.toList j).1:=⟨_,rfl⟩
  obtain ⟨b,hbb⟩:∃ b,b = (pos s.data.toList j).2:=⟨_,rfl⟩
  have HA:Hid (pos s.data.toList j = (a,b)):=Lib.hid (by rw [ha,hbb])
  rw [← ha,← hbb] at hpb
  obtain ⟨p1,p2,p3,p4⟩:=hpb
  obtain ⟨r,hr⟩:∃ r,r = s.extract j s.size:=⟨_,rfl⟩
  have hsz:r.size = s.size - j:=by rw [hr,extract_size']
  have HR:Hid (RdrAt wr B r a b):=Lib.hid (by have:=hR; unfold StandsAt at this; rwa [← hr,← ha,← hbb] at this)
  have c0:wr.cell? ⟨B,0,none⟩ = some (.string r):=cell_of_block' HR.out (i:=0) rfl
  have HSt:=Lib.hid hR
  have HG:=Lib.hid hg
  have HK:=Lib.hid hk
  have HB:=Lib.hid hb
  have HRr:=Lib.hid hr
  clear ha hbb hR hg hk hb
  by_cases hlt:j < s.size
  ·have hrs:0 < r.size:=by omega
   have hrs2:r.size ≤ 9223372036854775800:=by omega
   have hne:=txt_ne hrs
   have hb0:s.data.toList[j]? = some r[0]:=by
    have:=byte_at' r 0 hrs
    rw [← this]
    subst hr
    rw [extract_drop,List.getElem?_drop]; rfl
   have HB0:=Lib.hid hb0
   have hcl:=Lib.hid (cls_some hb0)
   have hsj:r.size + j ≤ s.size:=by omega
   clear hb0 hr hsz
   have hv:=clsB_val r[0] _ rfl
   rcases hv with ⟨h1,h2,hc⟩ | ⟨h1,h2,hc⟩ | ⟨h1,hc⟩ | ⟨h1,hc⟩ | ⟨h1,hc⟩ | ⟨h1,n1,n2,n3,n4,n5,n6,hc⟩
   ·have e32:((r[0].toNat:Int) == 32) = false:=by simp; omega
    have e9:((r[0].toNat:Int) == 9) = false:=by simp; omega
    have e13:((r[0].toNat:Int) == 13) = false:=by simp; omega
    have e10:((r[0].toNat:Int) == 10) = false:=by simp; omega
    have e35:((r[0].toNat:Int) == 35) = false:=by simp; omega
    clear h1 h2
    have HS2:=Lib.hid (skip_stop HK.out HG.out HSt.out HB.out (by rw [hcl.out,hc]; decide) (by rw [hcl.out,hc]; decide))
    clear hc hcl
    go_wp2_with fail
    refine bodyPost_ret (results_none rfl _ _ _) rfl ?_
    exact HS2.out
   ·have e32:((r[0].toNat:Int) == 32) = false:=by simp; omega
    have e9:((r[0].toNat:Int) == 9) = false:=by simp; omega
    have e13:((r[0].toNat:Int) == 13) = false:=by simp; omega
    have e10:((r[0].toNat:Int) == 10) = false:=by simp; omega
    have e35:((r[0].toNat:Int) == 35) = false:=by simp; omega
    clear h1 h2
    have HS2:=Lib.hid (skip_stop HK.out HG.out HSt.out HB.out (by rw [hcl.out,hc]; decide) (by rw [hcl.out,hc]; decide))
    clear hc hcl
    go_wp2_with fail
    refine bodyPost_ret (results_none rfl _ _ _) rfl ?_
    exact HS2.out
   ·have e32:((r[0].toNat:Int) == 32) = false:=by simp; omega
    have e9:((r[0].toNat:Int) == 9) = false:=by simp; omega
    have e13:((r[0].toNat:Int) == 13) = false:=by simp; omega
    have e10:((r[0].toNat:Int) == 10) = false:=by simp; omega
    have e35:((r[0].toNat:Int) == 35) = false:=by simp; omega
    clear h1
    have HS2:=Lib.hid (skip_stop HK.out HG.out HSt.out HB.out (by rw [hcl.out,hc]; decide) (by rw [hcl.out,hc]; decide))
    clear hc hcl
    go_wp2_with fail
    refine bodyPost_ret (results_none rfl _ _ _) rfl ?_
    exact HS2.out
   ·rcases h1 with h1 | h1 | h1 | h1
    ·have e32:((r[0].toNat:Int) == 32) = true:=by simp; omega
     have HC:=Lib.hid (fun w h => pass_any B r 1 a b w h (by omega) (by omega) (by omega) (by omega))
     have HCl:Hid (cls s.data.toList j = 4 ∧ ∀ c,s.data.toList[j]? = some c → c.toNat ≠ 10):=Lib.hid ⟨hcl.out.trans hc,fun c h => by rw [HB0.out] at h; cases h; omega⟩
     clear hc h1 hcl
     go_wp2_with fail
     refine (HC.out _ HR.out).mono ?_
     rintro e w2 ⟨rfl,hR2,hb2⟩
     have HN:=Lib.hid (skip_blank hlt HK.out HG.out HRr.out HA.out HB.out HCl.out.1 HCl.out.2 hR2 hb2)
     have HM:Hid (s.size - (j + 1) < gk):=Lib.hid (by have:=HK.out; omega)
     clear hR2 hb2
     go_wp2_with fail
     go_roundg (s.size - (j + 1))
     case rel => exact HN.out
     case measure => exact HM.out
    ·have e32:((r[0].toNat:Int) == 32) = false:=by simp; omega
     have e9:((r[0].toNat:Int) == 9) = true:=by simp; omega
     have HC:=Lib.hid (fun w h => pass_any B r 1 a b w h (by omega) (by omega) (by omega) (by omega))
     have HCl:Hid (cls s.data.toList j = 4 ∧ ∀ c,s.data.toList[j]? = some c → c.toNat ≠ 10):=Lib.hid ⟨hcl.out.trans hc,fun c h => by rw [HB0.out] at h; cases h; omega⟩
     clear hc h1 hcl
     go_wp2_with fail
     refine (HC.out _ HR.out).mono ?_
     rintro e w2 ⟨rfl,hR2,hb2⟩
     have HN:=Lib.hid (skip_blank hlt HK.out HG.out HRr.out HA.out HB.out HCl.out.1 HCl.out.2 hR2 hb2)
     have HM:Hid (s.size - (j + 1) < gk):=Lib.hid (by have:=HK.out; omega)
     clear hR2 hb2
     go_wp2_with fail
     go_roundg (s.size - (j + 1))
     case rel => exact HN.out
     case measure => exact HM.out
    ·have e32:((r[0].toNat:Int) == 32) = false:=by simp; omega
     have e9:((r[0].toNat:Int) == 9) = false:=by simp; omega
     have e13:((r[0].toNat:Int) == 13) = false:=by simp; omega
     have e10:((r[0].toNat:Int) == 10) = true:=by simp; omega
     have HC:=Lib.hid (fun w h => pass_any B r 1 a b w h (by omega) (by omega) (by omega) (by omega))
     have HCl:Hid (cls s.data.toList j = 4 ∧ ∀ c,s.data.toList[j]? = some c → c.toNat = 10):=Lib.hid ⟨hcl.out.trans hc,fun c h => by rw [HB0.out] at h; cases h; omega⟩
     clear hc h1 hcl
     go_wp2_with fail
     refine (HC.out _ HR.out).mono ?_
     rintro e w2 ⟨rfl,hR2,hb2⟩
     have q1:RdrAt (w2.setCell ⟨B,1,none⟩ (.int .i64 (a + 1))) B (r.extract 1 r.size) (a + 1) (b + (1:Nat)):=block_setCell' hR2 1 _
     have q2:RdrAt ((w2.setCell ⟨B,1,none⟩ (.int .i64 (a + 1))).setCell ⟨B,2,none⟩ (.int .i64 1)) B (r.extract 1 r.size) (a + 1) 1:=block_setCell' q1 2 _
     have d1:w2.cell? ⟨B,1,none⟩ = some (.int .i64 a):=cell_of_block' hR2 (i:=1) rfl
     have d2:w2.cell? ⟨B,2,none⟩ = some (.int .i64 (b + (1:Nat))):=cell_of_block' hR2 (i:=2) rfl
     have g1:=free_of_block' hR2 1
     have g2:=free_of_block' hR2 2
     have HN:=Lib.hid (skip_line hlt HK.out HG.out HRr.out HA.out HB.out HCl.out.1 HCl.out.2 q2 (but_set (but_set hb2 1 _) 2 _))
     have HM:Hid (s.size - (j + 1) < gk):=Lib.hid (by have:=HK.out; omega)
     clear hR2 hb2 q1 q2
     go_wp2_with fail
     go_roundg (s.size - (j + 1))
     case rel => exact HN.out
     case measure => exact HM.out
    ·have e32:((r[0].toNat:Int) == 32) = false:=by simp; omega
     have e9:((r[0].toNat:Int) == 9) = false:=by simp; omega
     have e13:((r[0].toNat:Int) == 13) = true:=by simp; omega
     have HC:=Lib.hid (fun w h => pass_any B r 1 a b w h (by omega) (by omega) (by omega) (by omega))
     have HCl:Hid (cls s.data.toList j = 4 ∧ ∀ c,s.data.toList[j]? = some c → c.toNat ≠ 10):=Lib.hid ⟨hcl.out.trans hc,fun c h => by rw [HB0.out] at h; cases h; omega⟩
     clear hc h1 hcl
     go_wp2_with fail
     refine (HC.out _ HR.out).mono ?_
     rintro e w2 ⟨rfl,hR2,hb2⟩
     have HN:=Lib.hid (skip_blank hlt HK.out HG.out HRr.out HA.out HB.out HCl.out.1 HCl.out.2 hR2 hb2)
     have HM:Hid (s.size - (j + 1) < gk):=Lib.hid (by have:=HK.out; omega)
     clear hR2 hb2
     go_wp2_with fail
     go_roundg (s.size - (j + 1))
     case rel => exact HN.out
     case measure => exact HM.out
   ·have e32:((r[0].toNat:Int) == 32) = false:=by simp; omega
    have e9:((r[0].toNat:Int) == 9) = false:=by simp; omega
    have e13:((r[0].toNat:Int) == 13) = false:=by simp; omega
    have e10:((r[0].toNat:Int) == 10) = false:=by simp; omega
    have e35:((r[0].toNat:Int) == 35) = true:=by simp; omega
    have hrl:=run_le notNl r.data.toList
    rw [size_list'] at hrl
    have HRm:=Lib.hid (fun w => remark_any r w (by omega))
    obtain ⟨m,hm⟩:∃ m,m = run notNl r.data.toList:=⟨_,rfl⟩
    rw [← hm] at HRm hrl
    have HMm:=Lib.hid hm
    have HC:=Lib.hid (fun w h => pass_any B r m a b w h (by omega) (by omega) (by omega) (by omega))
    have HCl:Hid (cls s.data.toList j = 5):=Lib.hid (hcl.out.trans hc)
    clear hc h1 hcl hm
    go_wp2_with (go_at_call 117; (with_reducible refine (HRm.out _).mono ?_); rintro e w' ⟨rfl,rfl⟩)
    refine (HC.out _ HR.out).mono ?_
    rintro e w2 ⟨rfl,hR2,hb2⟩
    have HN:=Lib.hid (skip_remark hlt HK.out HG.out HRr.out HA.out HB.out HCl.out HMm.out hR2 hb2)
    clear hR2 hb2
    go_wp2_with fail
    go_roundg (s.size - (j + m))
    case rel => exact HN.out.1
    case measure => exact HN.out.2
   ·have e32:((r[0].toNat:Int) == 32) = false:=by simp; omega
    have e9:((r[0].toNat:Int) == 9) = false:=by simp; omega
    have e13:((r[0].toNat:Int) == 13) = false:=by simp; omega
    have e10:((r[0].toNat:Int) == 10) = false:=by simp; omega
    have e35:((r[0].toNat:Int) == 35) = false:=by simp; omega
    clear h1 n1 n2 n3 n4 n5 n6
    have HS2:=Lib.hid (skip_stop HK.out HG.out HSt.out HB.out (by rw [hcl.out,hc]; decide) (by rw [hcl.out,hc]; decide))
    clear hc hcl
    go_wp2_with fail
    refine bodyPost_ret (results_none rfl _ _ _) rfl ?_
    exact HS2.out
  ·have hcl:=cls_none (l:=s.data.toList) (i:=j) (by rw [size_list']; omega)
   have HS2:=Lib.hid (skip_stop HK.out HG.out HSt.out HB.out (by rw [hcl]; decide) (by rw [hcl]; decide))
   have hr0:r.size = 0:=by omega
   have hl:r.toList = []:=by rw [ByteArray.toList_eq,← List.length_eq_zero_iff]; exact hr0
   clear hcl hr hsz hr0
   go_wp2_with fail
   go_end0
   exact HS2.out
end Go.Proofs.YtcofikjpplkjdaaGreatDoor