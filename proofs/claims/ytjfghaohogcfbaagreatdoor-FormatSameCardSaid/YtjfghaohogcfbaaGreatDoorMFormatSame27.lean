/- PrintLine, PrintLines, joined. -/
import Derived.Test.YtjfghaohogcfbaaGreatDoorMFormatSame26
import Derived.Laws.Externs
import Derived.Laws.BitsLemmas
import Derived.Test.YtjfghaohogcfbaaGreatDoorMFormatSame15
import Derived.Test.YtjfghaohogcfbaaGreatDoorMFormatSame07
import Derived.Test.YtjfghaohogcfbaaGreatDoorShelf
import Derived.Deep.RegionHeld3
namespace Go.Proofs.YtjfghaohogcfbaaGreatDoor
open Go.RowKit
set_option maxRecDepth 100000
def RetWr (W:World) (b:Nat) (n:Int) (l:List UInt8) (e:Ending) (w':World):Prop:=e = .returned (.tuple #[]) ∧ WrAt b n l w' ∧ Wrote b W w'
def RetUsed (W:World) (b:Nat) (n:Int) (l:List UInt8) (e:Ending) (w':World):Prop:=e = .returned (.tuple #[]) ∧ WrP b (.pointer (some ⟨b,0,none⟩)) n l w' ∧ Wrote b W w'
theorem inf_bld:(Tryz.prog.info? 109).map (·.size) = some 2:=by kernel_rfl
theorem lies_bld:liesAt Tryz.prog Tryz.prog.depth 111 (3 / Tryz.prog.cellsOf 111) 0 109 1 = true:=by kernel_rfl
set_option maxHeartbeats 1000000 in
theorem copy_used (b:Nat) (n:Int) (l:List UInt8) (w:World) (h:WrP b (.pointer (some ⟨b,0,none⟩)) n l w) :
 Calls Tryz.prog 146 #[.pointer (some ⟨b,0,none⟩)] w (RetUsed w b n l):=by
 obtain ⟨j,hj,_⟩:=Option.map_eq_some_iff.1 inf_bld
 obtain ⟨v,c0,-⟩:=h.cells
 have HH:=Lib.hid h
 clear h
 go_enter Tryz.func146,Tryz.ntmps146
 go_wp2
 rw [Lib.run_neq_ptr_same w _ Tryz.underlying106 hj]
 go_wp2
 go_end0
 exact ⟨rfl,HH.out,Wrote.refl _ _⟩
set_option maxHeartbeats 1000000 in
theorem copy_fresh (b:Nat) (n:Int) (l:List UInt8) (w:World) (h:WrP b (.pointer none) n l w) :
 Calls Tryz.prog 146 #[.pointer (some ⟨b,0,none⟩)] w (RetUsed w b n l):=by
 obtain ⟨j,hj,hjs⟩:=Option.map_eq_some_iff.1 inf_bld
 obtain ⟨v,c0,-,-,hsh,hfz,-⟩:=h.cells
 have HH:=Lib.hid h
 clear h
 go_enter Tryz.func146,Tryz.ntmps146
 go_wp2
 rw [Lib.run_to_unsafe w ⟨b,0,none⟩ Tryz.underlying106 Tryz.underlying209 hj (by rw [hjs]; decide) hsh (by show 0 < 3; omega)]
 simp only [Result.andThen]
 rw [Oper.upon_value]
 go_wp2
 rw [run_callFunc_extern Tryz.func171 (by kernel_rfl) (by kernel_rfl) (by kernel_rfl) (e:=Extern.AbiNoEscape.same) (by kernel_rfl)]
 rw [Lib.run_noEscape]
 simp only [Result.andThen]
 rw [Oper.upon_value]
 go_wp2
 rw [Lib.run_from_unsafe w ⟨b,0,none⟩ Tryz.underlying209 Tryz.underlying106 hj hsh lies_bld]
 simp only [Result.andThen]
 rw [Oper.upon_value]
 go_wp2
 go_end0
 exact ⟨rfl,(wr_set HH.out _).1,(wr_set HH.out _).2⟩
theorem copy_any (b:Nat) (n:Int) (l:List UInt8) (w:World) (h:WrAt b n l w) :
 Calls Tryz.prog 146 #[.pointer (some ⟨b,0,none⟩)] w (RetUsed w b n l):=by
 rcases h with h | h
 ·exact copy_fresh b n l w h
 ·exact copy_used b n l w h
theorem inf_byte:(Tryz.prog.info? 5).map (fun i => (i.zero,i.size,i.bytes)) = some (some (.int .u8 0),1,1):=by kernel_rfl
def RetWS (W:World) (b:Nat) (n:Int) (l:List UInt8) (s:ByteArray) (e:Ending) (w':World):Prop:=e = .returned (.tuple #[.int .i64 s.size,.nilIface]) ∧ WrAt b n (l ++ s.data.toList) w' ∧ Wrote b W w'
set_option maxHeartbeats 2000000 in
theorem ws_any (b:Nat) (n:Int) (l:List UInt8) (s:ByteArray) (w:World) (h:WrAt b n l w) (hlen:l.length + s.size ≤ 140737488355328) :
 Calls Tryz.prog 110 #[.pointer (some ⟨b,0,none⟩),.string s] w (RetWS w b n l s):=by
 obtain ⟨i0,hi,hz0,hz1,hz2⟩:=info_parts inf_byte
 have HC:=Lib.hid (copy_any b n l w h)
 have HLN:=Lib.hid hlen
 clear h hlen
 go_enter Tryz.func110,Tryz.ntmps110
 go_wp2_with (go_at_call 146; (with_reducible refine HC.out.mono ?_))
 rintro e w1 ⟨rfl,h1,hw1⟩
 have HW1:=Lib.hid hw1
 have HLT:=Lib.hid h1.lt
 obtain ⟨v,hbk,hown,hne⟩:=h1
 have HB:=Lib.hid hbk
 have HO:=Lib.hid hown
 have HN:=Lib.hid hne
 have c1:w1.cell? ⟨b,1,none⟩ = some v:=cell_of_block' hbk (i:=1) rfl
 clear hbk hown hne hw1
 go_wp2_with (at_builtin; refine Lib.wpList_append_own_string _ rfl _ _ 107 9 rfl b 5 i0 Tryz.underlying107 Tryz.underlying9 hi hz0 hz1 hz2 _ _ _ rfl HO.out s rfl ?c3 ?c4 ?c5 ?_)
 case c3 => have:=HLN.out; unfold maxLen; omega
 case c4 => exact HLN.out
 case c5 => have:=HLT.out; omega
 intro v' w2 hown' hgrow _
 have HA:=Lib.hid (wr_append HB.out HO.out HN.out hown' hgrow)
 have f1:w2.frozen? ⟨b,1,none⟩ = false:=free_of_block' HA.out.1 1
 have d1:w2.cell? ⟨b,1,none⟩ = some v:=cell_of_block' HA.out.1 (i:=1) rfl
 obtain ⟨A',c',rfl⟩:=own_shape hown'
 clear hown' hgrow
 go_wp2_with fail
 go_ret2
 exact ⟨rfl,.inr HA.out.2.1,HW1.out.trans HA.out.2.2⟩
end Go.Proofs.YtjfghaohogcfbaaGreatDoor
namespace Go.Proofs.YtjfghaohogcfbaaGreatDoor
open Go.RowKit CurSpec TermSpec EvalSpec ActSpec NamesSpec ExprSpec TransSpec SynSpec PrintSpec
set_option maxRecDepth 100000
def lnT (n:Nat) (ps:List ByteArray):List UInt8:=inT n ++ (ps.flatMap T ++ [10])
theorem rep_in:∀ n:Nat,Lib.repeatL [32,32] n = inT n
 | 0 => rfl
 | n + 1 => by
   rw [Lib.repeatL,rep_in n]
   unfold inT
   rw [show 2 * (n + 1) = 2 * n + 1 + 1 by omega,List.replicate_succ,List.replicate_succ]
   rfl
theorem blanks_any (n:Nat) (hn:n ≤ 20) (W:World):Calls Tryz.prog 111 #[.string ⟨#[32,32]⟩,.int .i64 n] W (RetS W (bs (inT n))):=by
 have h:=Tryz.strings_Repeat ⟨#[32,32]⟩ n W (by omega) (by show 2 * n ≤ _; omega)
 have e:(⟨(Lib.repeatL (⟨#[32,32]⟩:ByteArray).data.toList n).toArray⟩:ByteArray) = bs (inT n):=by
  rw [← rep_in]
  rfl
 rw [e] at h
 exact h
def LnRel (W:World) (b:Nat) (n:Int) (l:List UInt8) (ps:List ByteArray) (i:Value) (wr:World):Prop:=∃ k:Nat,k ≤ ps.length ∧ i = .int .i64 k ∧ WrAt b n (l ++ (ps.take k).flatMap T) wr ∧ Wrote b W wr
theorem parts_len (ps:List ByteArray) (k:Nat):((ps.take k).flatMap T).length ≤ (ps.flatMap T).length:=by
 have:=congrArg (fun l => (l.flatMap T).length) (List.take_append_drop k ps)
 simp only [List.flatMap_append,List.length_append] at this
 omega
theorem parts_next {ps:List ByteArray} {k:Nat} {s:ByteArray} (h:ps[k]? = some s):(ps.take (k + 1)).flatMap T = (ps.take k).flatMap T ++ s.data.toList:=by
 rw [take_next h,List.flatMap_append]
 simp [T]
set_option maxHeartbeats 4000000 in
theorem line_any (b n:Nat) (l:List UInt8) (ps:List ByteArray) (k m c:Nat) (w:World) (h:WrAt b n l w) (hk:w.heap[k]? = some (.cells (strV ps).toArray 9 (0,0))) (hkb:k ≠ b) (hm:m = ps.length) (hn:n ≤ 20) (hps:m ≤ 100) (hc:m ≤ c)
 (hlen:l.length + (lnT n ps).length ≤ 140737488355328):Calls Tryz.prog 62 #[.pointer (some ⟨b,0,none⟩),.slice (some ⟨k,0,none⟩) m c] w (RetWr w b n (l ++ lnT n ps)):=by
 obtain ⟨P,hP⟩:∃ P,P = bs (inT n):=⟨_,rfl⟩
 have HR:=Lib.hid (fun W => blanks_any n hn W)
 rw [← hP] at HR
 have hPT:P.data.toList = inT n:=by rw [hP]; simp [bs]
 have HPT:=Lib.hid hPT
 have hlen':l.length + (inT n).length + (ps.flatMap T).length + 1 ≤ 140737488355328:=by
  unfold lnT at hlen
  simp only [List.length_append,List.length_singleton] at hlen
  omega
 have hPs:P.size = (inT n).length:=by rw [← hPT]; rfl
 have HL:=Lib.hid hlen'
 have HL1:Hid (l.length + P.size ≤ 140737488355328):=Lib.hid (by omega)
 have HH:=Lib.hid h
 obtain ⟨c2,-⟩:=h.open_
 have HK:=Lib.hid hk
 have HKB:=Lib.hid hkb
 have HM:=Lib.hid hm
 have hck:(0:Int) ≤ (c:Int):=by omega
 clear hP hPT hlen hlen' hPs h hk hkb hm hn
 go_enter Tryz.func62,Tryz.ntmps62
 go_wp2_with fail
 go_region_held3 (fun w' => w'.cell? ⟨b,2,none⟩ = some (.int .i64 n)) (go_keep)
  ((first
    | (go_at_call 111; (with_reducible refine (HR.out _).mono ?_); rintro e w2 ⟨rfl,hb2'⟩; have hb2:=undrawn hb2'; have HW2:=Lib.hid (HH.out.keep hb2); have HX2:=Lib.hid (Wrote.of HH.out.lt hb2); have HC2:=Lib.hid (ws_any b n l P w2 HW2.out HL1.out); have e2:=HW2.out.open_.1; clear hb2 hb2')
    | (go_at_call 110; (with_reducible refine HC2.out.mono ?_); rintro e w3 ⟨rfl,h3,hx3⟩; have HW3:=Lib.hid h3; have HX3:=Lib.hid (HX2.out.trans hx3); have e3:=h3.open_.1; clear h3 hx3)))
 rw [HPT.out] at HW3
 obtain ⟨l1,hl1⟩:∃ l1,l1 = l ++ inT n:=⟨_,rfl⟩
 rw [← hl1] at HW3
 have HL2:Hid (l1.length + (ps.flatMap T).length + 1 ≤ 140737488355328):=Lib.hid (by have:=HL.out; rw [hl1,List.length_append]; omega)
 have HE:Hid (l ++ lnT n ps = l1 ++ ps.flatMap T ++ [10]):=Lib.hid (by rw [hl1]; unfold lnT; simp)
 clear hl1 e2 e3 HR HL HL1 HW2 HX2 HC2
 go_wp2_with fail
 go_loopw [5,17] (fun _ i wr => LnRel w b n l1 ps i wr) (fun _ i _ => m - (intOf i).toNat)
 case atStart => exact ⟨0,Nat.zero_le _,rfl,by rw [List.take_zero]; simpa using HW3.out,HX3.out⟩
 case round =>
  obtain ⟨j,hj,rfl,hw,hx⟩:=hrel
  have HW:=Lib.hid hw
  have HX:=Lib.hid hx
  have hj':j ≤ m:=by rw [HM.out]; exact hj
  have hpl:=parts_len ps j
  clear hw hx hj
  by_cases hlt:j < m
  ·obtain ⟨s,hs⟩:∃ s,ps[j]? = some s:=get_some (by rw [← HM.out]; exact hlt)
   have ck:wr.cell? ⟨k,j,none⟩ = some (.string s):=cell_of_block' (HX.out.at_ HK.out HKB.out (by decide)) (by simp [strV,hs])
   have hnx:=parts_next hs
   have hpl2:=parts_len ps (j + 1)
   rw [hnx,List.length_append] at hpl2
   have HC:=Lib.hid (ws_any b n _ s wr HW.out (by have:=HL2.out; rw [List.length_append]; show _ + s.data.toList.length ≤ _; omega))
   have HN:Hid (l1 ++ (ps.take j).flatMap T ++ s.data.toList = l1 ++ (ps.take (j + 1)).flatMap T):=Lib.hid (by rw [hnx,List.append_assoc])
   clear hs hnx hpl hpl2 hj'
   go_wp2_with (go_at_call 110; (with_reducible refine HC.out.mono ?_))
   rintro e w3 ⟨rfl,h3,hx3⟩
   rw [HN.out] at h3
   have HW4:=Lib.hid h3
   have HX4:=Lib.hid (HX.out.trans hx3)
   clear h3 hx3
   go_wp2_with fail
   go_roundw
   case rel => exact ⟨j + 1,by rw [← HM.out]; omega,by go_num,HW4.out,HX4.out⟩
   case measure => simp [intOf]; omega
  ·obtain rfl:j = m:=by omega
   have HW5:=HW.out
   rw [List.take_of_length_le (by rw [← HM.out]; exact Nat.le_refl _)] at HW5
   have HC:=Lib.hid (ws_any b n _ ⟨#[10]⟩ wr HW5 (by have:=HL2.out; rw [List.length_append]; show _ + 1 ≤ _; omega))
   clear HW5 hpl hj'
   go_wp2_with (go_at_call 110; (with_reducible refine HC.out.mono ?_))
   rintro e w3 ⟨rfl,h3,hx3⟩
   have HW4:=Lib.hid h3
   have HX4:=Lib.hid (HX.out.trans hx3)
   clear h3 hx3
   go_wp2_with fail
   go_end0
   exact ⟨rfl,by rw [HE.out]; exact HW4.out,HX4.out⟩
end Go.Proofs.YtjfghaohogcfbaaGreatDoor