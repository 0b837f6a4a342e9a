/- ScanToks, ExprParse, ExprScan, ActScan, joined. -/
import Derived.Test.YtcofikjpplkjdaaGreatDoorMPrintLong11
import Derived.Test.YtcofikjpplkjdaaGreatDoorMPrintLong07
import Derived.Test.YtcofikjpplkjdaaGreatDoorMPrintLong10
import Derived.Test.YtcofikjpplkjdaaGreatDoorMPrintLong04
import Derived.Test.YtcofikjpplkjdaaGreatDoorMPrintLong05
namespace Go.Proofs.YtcofikjpplkjdaaGreatDoor
open Go.RowKit ScanSpec
set_option maxRecDepth 100000
theorem one_kind {d:List UInt8} {kd:Int} {ln:Nat} (h:ScanSpec.one d = (kd,ln,0)):kd ≠ 0:=by
 intro hk
 subst hk
 unfold ScanSpec.one at h
 split at h
 ·split at h <;> simp at h
 ·split at h
  ·split at h
   ·simp at h
   ·split at h <;> simp at h
  ·split at h <;> simp at h
theorem one_zero {d:List UInt8} {kd er:Int} {ln:Nat} (h:ScanSpec.one d = (kd,ln,er)) (hne:er ≠ 0):kd = 0 ∧ ln = 0:=by
 unfold ScanSpec.one at h
 split at h
 ·split at h
  ·cases h; exact ⟨rfl,rfl⟩
  ·cases h; exact absurd rfl hne
 ·split at h
  ·split at h
   ·cases h; exact ⟨rfl,rfl⟩
   ·split at h
    ·cases h; exact ⟨rfl,rfl⟩
    ·cases h; exact absurd rfl hne
  ·split at h
   ·cases h; exact ⟨rfl,rfl⟩
   ·cases h; exact absurd rfl hne
set_option maxHeartbeats 2000000 in
theorem stoks_long (s:ByteArray) (w:World) (h:65536 < s.size):Calls Tryz.prog 17 #[.string s] w (TokPost w s):=by
 have HT:Hid (scanT s.data.toList = ([],0,5)):=Lib.hid (if_pos h)
 have hI:65536 < (s.size:Int):=by omega
 go_enter Tryz.func17,Tryz.ntmps17
 go_wp2_with fail
 go_region
 all_goals
  go_wp2_with fail
  refine bodyPost_ret (v:=.tuple #[.slice none 0 0,.agg #[.int .i64 1,.int .i64 1],.int .i64 5]) (by simp [results,Tryz.results17,go_sem]) rfl ?_
  exact ⟨(((Below.refl _ _).alloc (Nat.le_refl _) _).alloc (by simp) _).drew,fun _ => by rw [HT.out]; rfl,fun h => by rw [HT.out] at h; exact absurd h (by decide)⟩
structure TokLoop (W:World) (s:ByteArray) (k:Nat) (v:Value) (n j:Nat) (acc:List Tok) (wr:World):Prop where
 hk:k = s.size - j
 hj:j ≤ s.size
 hn:acc.length = n
 own:wr.ownsRow (W.heap.size + 3) 92 4 v n (toksV s acc)
 go:∃ f,scanGo s.data.toList f (gap s.data.toList j) acc = scan s.data.toList ∧ s.size ≤ gap s.data.toList j + f
 few:n ≤ 4000
 res:wr.heap[W.heap.size]? = some (.cells #[.int .i64 0,.int .i64 0] 34 (0,0))
 rdr:StandsAt wr (W.heap.size + 2) s j
 below:Below W.heap.size W wr
 top:W.heap.size + 3 ≤ wr.heap.size
def TokLoopR (W:World) (s:ByteArray) (k:Nat) (v:Value) (wr:World):Prop:=∃ n j acc,TokLoop W s k v n j acc wr
theorem toks_start {w:World} {s:ByteArray}:TokLoopR w s s.size (.slice none 0 0)
 (((w.alloc (.cells #[.int .i64 0,.int .i64 0] 34)).alloc (.cells #[.int .i64 1,.int .i64 1] 34)).alloc (.cells #[.string s,.int .i64 1,.int .i64 1] 90)):=by
 have e1:=World.size_alloc w (.cells #[.int .i64 0,.int .i64 0] 34)
 have e2:=World.size_alloc (w.alloc (.cells #[.int .i64 0,.int .i64 0] 34)) (.cells #[.int .i64 1,.int .i64 1] 34)
 have hg:=(gap_bd (l:=s.data.toList) (i:=0) (Nat.zero_le _)).1
 refine ⟨0,0,[],by omega,Nat.zero_le _,rfl,⟨rfl,.inl ⟨rfl,rfl⟩⟩,⟨s.size,rfl,by omega⟩,by omega,?_,?_,?_,by simp⟩
 ·exact (heap_alloc_old _ _ (by simp; omega)).trans ((heap_alloc_old _ _ (by simp)).trans (heap_alloc_new _ _))
 ·unfold StandsAt RdrAt
  have:=heap_alloc_new ((w.alloc (.cells #[.int .i64 0,.int .i64 0] 34)).alloc (.cells #[.int .i64 1,.int .i64 1] 34)) (.cells #[.string s,.int .i64 1,.int .i64 1] 90)
  rw [e2,e1] at this
  rw [extract_all]
  exact this
 ·exact (((Below.refl _ _).alloc (Nat.le_refl _) _).alloc (by simp) _).alloc (by simp; omega) _
structure TokMid (W:World) (s:ByteArray) (tb x:Nat) (kd p1 p2:Int) (tx:ByteArray) (w4:World):Prop where
 tok:w4.heap[tb]? = some (.cells #[.int .i64 kd,.string tx,.int .i64 p1,.int .i64 p2] 92 (0,0))
 res:w4.heap[W.heap.size]? = some (.cells #[.int .i64 0,.int .i64 0] 34 (0,0))
 rdr:StandsAt w4 (W.heap.size + 2) s x
 below:Below W.heap.size W w4
 top:W.heap.size + 3 ≤ w4.heap.size
abbrev tokO (kd:Int) (tx:ByteArray) (p1 p2:Int):Obj:=.cells #[.int .i64 kd,.string tx,.int .i64 p1,.int .i64 p2] 92
theorem toks_mid {W wr w2 w4:World} {s tx:ByteArray} {k n j x:Nat} {v:Value} {acc:List Tok} {kd p1 p2:Int} (hL:TokLoop W s k v n j acc wr) (hb:wr.grownBy w2 (some (W.heap.size + 2))) (hR:StandsAt w2 (W.heap.size + 2) s x)
 (hg:((w2.alloc (tokO kd tx p1 p2)).alloc (tokO kd tx p1 p2)).grownBy w4 v.ownBlock):TokMid W s w2.heap.size x kd p1 p2 tx w4:=by
 have hv:=own_block_bd (own_but hL.own hb (by omega))
 have ht:=hL.top
 have h2:=hb.size
 have h4:=hg.size
 simp only [World.size_alloc] at h4
 have old:∀ i,i < w2.heap.size → (i < W.heap.size + 3) → w4.heap[i]? = w2.heap[i]?:=fun i hi hj =>
  (hg.block i (by simp; omega) (fun e => by have:=(hv i e.symm).1; omega)).trans ((heap_alloc_old _ _ (by simp; omega)).trans (heap_alloc_old _ _ hi))
 refine ⟨?_,?_,?_,?_,by omega⟩
 ·exact (hg.block w2.heap.size (by simp; omega) (fun e => by have:=(hv _ e.symm).2; omega)).trans ((heap_alloc_old _ _ (by simp)).trans (heap_alloc_new _ _))
 ·exact (old _ (by omega) (by omega)).trans ((hb.block _ (by omega) (by simp)).trans hL.res)
 ·exact (old _ (by omega) (by omega)).trans hR
 ·refine hL.below.trans ⟨?_,?_,?_,by omega,fun i hi => (old i (by omega) (by omega)).trans (hb.block i (by omega) (by simp; omega))⟩
  ·exact hg.os.trans hb.os
  ·exact hg.tape.trans hb.tape
  ·exact hg.output.trans hb.output
theorem toks_done {W w4:World} {s:ByteArray} {tb x g n cap k j:Nat} {acc:List Tok} {v u0 u1:Value} {wr:World} {p1 p2:Int} {tx:ByteArray} (hm:s.size ≤ 65536) (hL:TokLoop W s k v n j acc wr) (hG:g = gap s.data.toList j) (hP:pos s.data.toList g = (p1,p2)) (hge:g = s.size) (hM:TokMid W s tb x 0 p1 p2 tx w4) {gg:Nat}
 (hown:w4.ownsRow (W.heap.size + 3) 92 4 (.slice (some ⟨gg,0,none⟩) (n + 1) cap) (n + 1) (toksV s acc ++ [.int .i64 0,.string ⟨#[]⟩,.int .i64 p1,.int .i64 p2])) :
 TokPost W s (.returned (.tuple #[.slice (some ⟨gg,0,none⟩) (n + 1) cap,.agg #[.int .i64 0,.int .i64 0],.int .i64 0])) ((w4.setCell ⟨W.heap.size,0,none⟩ u0).setCell ⟨W.heap.size,1,none⟩ u1):=by
 obtain ⟨f,hgo,hf⟩:=hL.go
 rw [← hG] at hgo
 refine tok_end (i:=g) (f:=f) ((show scanT s.data.toList = scan s.data.toList from if_neg (by rw [size_list']; omega))) hL.hn hgo (by omega) ?_ hM.below
 have e:endC s g = [.int .i64 0,.string ⟨#[]⟩,.int .i64 p1,.int .i64 p2]:=by
  unfold endC
  rw [hP]; rfl
 rw [e]
 exact own_weak hown (by omega)
theorem toks_next {W w4 wr:World} {s:ByteArray} {tb g n ln cap gg k j:Nat} {acc:List Tok} {v:Value} {kd p1 p2:Int} (hL:TokLoop W s k v n j acc wr) (hG:g = gap s.data.toList j) (hP:pos s.data.toList g = (p1,p2)) (hlt:g < s.size) (hO:ScanSpec.one (s.data.toList.drop g) = (kd,ln,0)) (hfull:¬ n = 4000)
 (hln:1 ≤ ln) (hle:g + ln ≤ s.size) (hM:TokMid W s tb (g + ln) kd p1 p2 (s.extract g (g + ln)) w4)
 (hown:w4.ownsRow (W.heap.size + 3) 92 4 (.slice (some ⟨gg,0,none⟩) (n + 1) cap) (n + 1) (toksV s acc ++ [.int .i64 kd,.string (s.extract g (g + ln)),.int .i64 p1,.int .i64 p2])) :
 TokLoopR W s (s.size - (g + ln)) (.slice (some ⟨gg,0,none⟩) (n + 1) cap) w4 ∧ s.size - (g + ln) < k:=by
 obtain ⟨f,hgo,hf⟩:=hL.go
 rw [← hG] at hgo hf
 obtain ⟨f,rfl⟩:∃ f',f = f' + 1:=⟨f - 1,by omega⟩
 have hk:=hL.hk
 have hn:=hL.hn
 have hfew:=hL.few
 have hjg:=(gap_bd (l:=s.data.toList) (i:=j) hL.hj).1
 rw [← hG] at hjg
 have hgb:=(gap_bd (l:=s.data.toList) (i:=g + ln) hle).1
 refine ⟨⟨n + 1,g + ln,acc ++ [⟨kd,g,ln⟩],rfl,hle,by simp [hn],?_,⟨f,?_,by omega⟩,by omega,hM.res,hM.rdr,hM.below,hM.top⟩,by omega⟩
 ·rw [← toksV_snoc]
  have e:tokV s ⟨kd,g,ln⟩ = [.int .i64 kd,.string (s.extract g (g + ln)),.int .i64 p1,.int .i64 p2]:=by
   unfold tokV
   rw [hP]
  rw [e]
  exact hown
 ·rw [← hgo,scanGo_next (by rw [size_list']; exact hlt) (by rw [hO]) (by rw [hn]; exact hfull),hO]
theorem toks_fault {W wr:World} {s:ByteArray} {g n ln k j:Nat} {acc:List Tok} {v:Value} {kd er:Int} (hm:s.size ≤ 65536) (hL:TokLoop W s k v n j acc wr) (hG:g = gap s.data.toList j) (hlt:g < s.size) (hO:ScanSpec.one (s.data.toList.drop g) = (kd,ln,er)) (hne:er ≠ 0):scanT s.data.toList = ([],g,er):=by
 obtain ⟨f,hgo,hf⟩:=hL.go
 rw [← hG] at hgo hf
 obtain ⟨f,rfl⟩:∃ f',f = f' + 1:=⟨f - 1,by omega⟩
 rw [show scanT s.data.toList = scan s.data.toList from if_neg (by rw [size_list']; omega),← hgo,scanGo_err (by rw [size_list']; exact hlt) (by rw [hO]; exact hne),hO]
theorem toks_full {W wr:World} {s:ByteArray} {g n ln k j:Nat} {acc:List Tok} {v:Value} {kd:Int} (hm:s.size ≤ 65536) (hL:TokLoop W s k v n j acc wr) (hG:g = gap s.data.toList j) (hlt:g < s.size) (hO:ScanSpec.one (s.data.toList.drop g) = (kd,ln,0)) (hfull:n = 4000):scanT s.data.toList = ([],g,8):=by
 obtain ⟨f,hgo,hf⟩:=hL.go
 rw [← hG] at hgo hf
 obtain ⟨f,rfl⟩:∃ f',f = f' + 1:=⟨f - 1,by omega⟩
 rw [show scanT s.data.toList = scan s.data.toList from if_neg (by rw [size_list']; omega),← hgo,scanGo_full (by rw [size_list']; exact hlt) (by rw [hO]) (by rw [hL.hn]; exact hfull)]
theorem toks_ret {W wr w2:World} {s:ByteArray} {k n j g:Nat} {v u0 u1:Value} {acc:List Tok} {o:Obj} {p1 p2 er:Int} (hL:TokLoop W s k v n j acc wr) (hb:wr.grownBy w2 (some (W.heap.size + 2))) (hP:pos s.data.toList g = (p1,p2)) (hT:scanT s.data.toList = ([],g,er)) (hne:er ≠ 0) :
 TokPost W s (.returned (.tuple #[.slice none 0 0,.agg #[.int .i64 p1,.int .i64 p2],.int .i64 er])) (((w2.alloc o).setCell ⟨W.heap.size,0,none⟩ u0).setCell ⟨W.heap.size,1,none⟩ u1).drew:=by
 have ht:=hL.top
 have h2:=hb.size
 have hB:Below W.heap.size W w2:=hL.below.trans ⟨hb.os,hb.tape,hb.output,h2,fun i hi => hb.block i (by omega) (by simp; omega)⟩
 have:=tok_bad (s:=s) (i:=g) (er:=er) ((((hB.alloc (by omega) o).setCell (p:=⟨W.heap.size,0,none⟩) (Nat.le_refl _) u0).setCell (p:=⟨W.heap.size,1,none⟩) (Nat.le_refl _) u1).drew) hT hne
 rwa [hP] at this
theorem toks_res {W wr w2:World} {s:ByteArray} {k n j:Nat} {v:Value} {acc:List Tok} (o:Obj) (hL:TokLoop W s k v n j acc wr) (hb:wr.grownBy w2 (some (W.heap.size + 2))) :
 (w2.alloc o).heap[W.heap.size]? = some (.cells #[.int .i64 0,.int .i64 0] 34 (0,0)):=by
 have ht:=hL.top
 have h2:=hb.size
 exact (heap_alloc_old _ _ (by omega)).trans ((hb.block _ (by omega) (by simp)).trans hL.res)
theorem toks_good {s tx:ByteArray} {j g B ln:Nat} {kd p1 p2:Int} {wr:World} (hpw:PairsIn wr) (hB:0 ≠ B) (hg:g = gap s.data.toList j) (hp:pos s.data.toList g = (p1,p2)) (he:g < s.size) (hO:ScanSpec.one (s.data.toList.drop g) = (kd,ln,0)) (hle:g + ln ≤ s.size) (htx:tx = s.extract g (g + ln)) (hj:j ≤ s.size) (hs:s.size ≤ 9223372036854775800) (h:StandsAt wr B s j) :
 Calls Tryz.prog 45 #[.pointer (some ⟨B,0,none⟩)] wr fun e w' => e = .returned (.tuple #[.agg #[.int .i64 kd,.string tx,.int .i64 p1,.int .i64 p2],.int .i64 0]) ∧ StandsAt w' B s (g + ln) ∧ wr.grownBy w' (some B):=by
 subst htx
 have hsz:=extract_size' s g
 refine (next_good B j s wr hj hs h kd ln (by omega) (fun k hk => by rw [← hg]; exact one_noline hO k hk) (fun w' hb => ?_)).mono ?_
 ·rw [← hg]
  refine (first_any (s.extract g s.size) w' (hpw.but hb hB) (by omega) (by omega)).mono ?_
  rintro e w2 ⟨kd',er',ln',hO',he',hw'⟩
  rw [extract_drop,hO] at hO'
  cases hO'
  exact ⟨he',hw'⟩
 ·rintro e w' ⟨h1,h2,h3⟩
  rw [← hg] at h1 h2
  refine ⟨?_,h2,h3⟩
  rw [h1,tokA,hp]
theorem toks_wrong {s:ByteArray} {j g B ln:Nat} {kd p1 p2 er:Int} {wr:World} (hpw:PairsIn wr) (hB:0 ≠ B) (hg:g = gap s.data.toList j) (hp:pos s.data.toList g = (p1,p2)) (he:g < s.size) (hO:ScanSpec.one (s.data.toList.drop g) = (kd,ln,er)) (hne:er ≠ 0) (hj:j ≤ s.size) (hs:s.size ≤ 9223372036854775800) (h:StandsAt wr B s j) :
 Calls Tryz.prog 45 #[.pointer (some ⟨B,0,none⟩)] wr fun e w' => e = .returned (.tuple #[.agg #[.int .i64 0,.string ⟨#[]⟩,.int .i64 p1,.int .i64 p2],.int .i64 er]) ∧ wr.grownBy w' (some B):=by
 have hsz:=extract_size' s g
 obtain ⟨rfl,rfl⟩:=one_zero hO hne
 refine (next_bad B j s wr hj hs h er hne (fun w' hb => ?_)).mono ?_
 ·rw [← hg]
  refine (first_any (s.extract g s.size) w' (hpw.but hb hB) (by omega) (by omega)).mono ?_
  rintro e w2 ⟨kd',er',ln',hO',he',hw'⟩
  rw [extract_drop,hO] at hO'
  cases hO'
  exact ⟨he',hw'⟩
 ·rintro e w' ⟨h1,h3⟩
  rw [← hg] at h1
  refine ⟨?_,h3⟩
  rw [h1,hp]
theorem toks_end {s:ByteArray} {j g B:Nat} {p1 p2:Int} {wr:World} (hg:g = gap s.data.toList j) (hp:pos s.data.toList g = (p1,p2)) (he:g = s.size) (hj:j ≤ s.size) (hs:s.size ≤ 9223372036854775800) (h:StandsAt wr B s j) :
 Calls Tryz.prog 45 #[.pointer (some ⟨B,0,none⟩)] wr fun e w' => e = .returned (.tuple #[.agg #[.int .i64 0,.string ⟨#[]⟩,.int .i64 p1,.int .i64 p2],.int .i64 0]) ∧ StandsAt w' B s g ∧ wr.grownBy w' (some B):=by
 have hx:s.extract g s.size = ⟨#[]⟩:=by
  apply ByteArray.ext
  apply Array.toList_inj.mp
  rw [extract_drop,List.drop_eq_nil_of_le (by rw [size_list']; omega)]
 refine (next_good B j s wr hj hs h 0 0 (by omega) (fun k hk => absurd hk (by omega)) (fun w' _ => ?_)).mono ?_
 ·rw [← hg,hx]
  exact first_end w'
 ·rintro e w' ⟨h1,h2,h3⟩
  rw [← hg] at h1 h2
  refine ⟨?_,h2,h3⟩
  rw [h1,tokA,hp,show s.extract g (g + 0) = ⟨#[]⟩ by
   apply ByteArray.ext
   simp]
set_option maxHeartbeats 4000000 in
theorem stoks_short (s:ByteArray) (w:World) (hp:PairsIn w) (h:s.size ≤ 65536):Calls Tryz.prog 17 #[.string s] w (TokPost w s):=by
 have hI:(s.size:Int) ≤ 65536:=by omega
 have HP:=Lib.hid hp
 clear hp
 obtain ⟨i0,hi,hz0,hz1,hz2⟩:=info_parts info_tok
 go_enter Tryz.func17,Tryz.ntmps17
 go_wp2_with fail
 go_loopg [6] s.size (fun k v wr => TokLoopR w s k v wr)
 case atStart => exact toks_start
 case round =>
  obtain ⟨n,j,acc,hL⟩:=hrel
  obtain ⟨A,c,rfl⟩:=own_shape hL.own
  have hj:=hL.hj
  have hg:=gap_bd (l:=s.data.toList) (i:=j) hj
  rw [size_list'] at hg
  obtain ⟨g,hgE⟩:∃ g,g = gap s.data.toList j:=⟨_,rfl⟩
  obtain ⟨p1,p2,hpE⟩:∃ p1 p2,pos s.data.toList g = (p1,p2):=⟨_,_,rfl⟩
  have HG:=Lib.hid hgE
  have HPos:=Lib.hid hpE
  have HL:=Lib.hid hL
  have HPw:Hid (PairsIn wr):=Lib.hid (HP.out.keep hL.below)
  rw [← hgE] at hg
  obtain ⟨hg1,hg2⟩:=hg
  clear hL hgE hpE
  by_cases hge:g = s.size
  ·have HN:Hid (Calls Tryz.prog 45 #[.pointer (some ⟨w.heap.size + 2,0,none⟩)] wr fun e w' => e = .returned (.tuple #[.agg #[.int .i64 0,.string ⟨#[]⟩,.int .i64 p1,.int .i64 p2],.int .i64 0]) ∧ StandsAt w' (w.heap.size + 2) s g ∧ wr.grownBy w' (some (w.heap.size + 2))):=Lib.hid (toks_end HG.out HPos.out hge hj (by omega) HL.out.rdr)
   have HGe:=Lib.hid hge
   clear hge
   go_wp2_with fail
   refine (HN.out).mono ?_
   rintro e w2 ⟨rfl,hR2,hb2⟩
   have hown2:=own_but HL.out.own hb2 (by omega)
   have hsz2:=hb2.size
   have htop:=HL.out.top
   have hfew:=HL.out.few
   have HR2:=Lib.hid hR2
   have HB2:=Lib.hid hb2
   have hown3:=(hown2.alloc (.cells #[.int .i64 0,.string ⟨#[]⟩,.int .i64 p1,.int .i64 p2] 92)).alloc (.cells #[.int .i64 0,.string ⟨#[]⟩,.int .i64 p1,.int .i64 p2] 92)
   have hnew:=heap_alloc_new (w2.alloc (.cells #[.int .i64 0,.string ⟨#[]⟩,.int .i64 p1,.int .i64 p2] 92)) (.cells #[.int .i64 0,.string ⟨#[]⟩,.int .i64 p1,.int .i64 p2] 92)
   rw [World.size_alloc] at hnew
   have HOwn:=Lib.hid hown3
   have HNew:=Lib.hid hnew
   clear hR2 hb2 hown2 hown3 hnew
   go_wp2_with (at_builtin; refine wpList_append_lies _ rfl (.tmp 39) (.tmp 41) _ rfl (w.heap.size + 3) 92 i0 _ 4 40 Tryz.underlying56 hi hz0 hz1 hz2 rfl (by decide) _ n (toksV s acc) rfl HOwn.out ⟨w2.heap.size + 1,0,none⟩ 1 1 [.int .i64 0,.string ⟨#[]⟩,.int .i64 p1,.int .i64 p2] rfl rfl (World.news_of_block (cs:=#[.int .i64 0,.string ⟨#[]⟩,.int .i64 p1,.int .i64 p2]) (t:=92) (fr:=(0,0)) HNew.out) (by simp [Value.oneCell']) (by decide) ?_ ?_ ?_ (w2.heap.size + 2) ?_ ?_; (unfold maxLen; omega); omega; (simp; omega); (simp); intro gg cap4 w4 hown4 hgrow4 hat4 hlt4; have HM:=Lib.hid (toks_mid HL.out HB2.out HR2.out hgrow4); have k0:=cell_of_block' HM.out.tok (i:=0) rfl; have r0:=cell_of_block' HM.out.res (i:=0) rfl; have r1:=cell_of_block' HM.out.res (i:=1) rfl; have f0:=free_of_block' HM.out.res 0; have f1:=free_of_block' HM.out.res 1; have HOwn4:=Lib.hid hown4; have htop4:=HM.out.top; clear hgrow4 hown4)
   have q0:=fun u => (store_pair HM.out.res u u).1
   have q1:=fun u v => (store_pair HM.out.res u v).2
   refine bodyPost_ret (v:=.tuple #[.slice (some ⟨gg,0,none⟩) (n + 1) cap4,.agg #[.int .i64 0,.int .i64 0],.int .i64 0]) (by simp [results,Tryz.results17,go_sem,q0,q1]) rfl ?_
   exact toks_done h HL.out HG.out HPos.out HGe.out HM.out HOwn4.out
  ·have hlt:g < s.size:=by omega
   obtain ⟨kd,ln,er,hO⟩:∃ kd ln er,ScanSpec.one (s.data.toList.drop g) = (kd,ln,er):=⟨_,_,_,rfl⟩
   have htop:=HL.out.top
   have hfew:=HL.out.few
   have HO:=Lib.hid hO
   by_cases her:er = 0
   ·subst her
    have hb1:=(one_bd (s.data.toList.drop g) (by rw [List.length_drop,size_list']; omega)).1
    rw [hO] at hb1
    obtain ⟨hln,hle⟩:=hb1 rfl
    rw [List.length_drop,size_list'] at hle
    have hle':g + ln ≤ s.size:=by simp only at hle; omega
    have hln':1 ≤ ln:=hln
    have hkd:=one_kind hO
    have hkd0:(kd == 0) = false:=by simpa using hkd
    have hkd1:(kd != 0) = true:=by simpa using hkd
    obtain ⟨tx,htx⟩:∃ tx,tx = s.extract g (g + ln):=⟨_,rfl⟩
    have HN:=Lib.hid (toks_good HPw.out (by omega) HG.out HPos.out hlt hO hle' htx hj (by omega) HL.out.rdr)
    have HTx:=Lib.hid htx
    clear hO hb1 hln hle hkd hge htx
    by_cases hfull:n = 4000
    ·have e4:((n:Int) == 4000) = true:=by simp; omega
     have HT:=Lib.hid (toks_full h HL.out HG.out hlt HO.out hfull)
     clear hfull
     go_wp2_with fail
     refine (HN.out).mono ?_
     rintro e w2 ⟨rfl,hR2,hb2⟩
     have hres:=toks_res (tokO kd tx p1 p2) HL.out hb2
     have hsz2:=hb2.size
     have r0:=cell_of_block' hres (i:=0) rfl
     have r1:=cell_of_block' hres (i:=1) rfl
     have f0:=free_of_block' hres 0
     have f1:=free_of_block' hres 1
     have HRes:=Lib.hid hres
     have HB2:=Lib.hid hb2
     clear hR2 hres hb2
     go_wp2_with fail
     go_region
     all_goals
      go_wp2_with fail
      have q0:=fun u => (store_pair HRes.out u u).1
      have q1:=fun u v => (store_pair HRes.out u v).2
      refine bodyPost_ret (v:=.tuple #[.slice none 0 0,.agg #[.int .i64 p1,.int .i64 p2],.int .i64 8]) (by simp [results,Tryz.results17,go_sem,q0,q1]) rfl ?_
      exact toks_ret HL.out HB2.out HPos.out HT.out (by decide)
    ·have e4:((n:Int) == 4000) = false:=by simp; omega
     have HFu:=Lib.hid hfull
     clear hfull
     go_wp2_with fail
     refine (HN.out).mono ?_
     rintro e w2 ⟨rfl,hR2,hb2⟩
     have hown2:=own_but HL.out.own hb2 (by omega)
     have hsz2:=hb2.size
     have HR2:=Lib.hid hR2
     have HB2:=Lib.hid hb2
     have hown3:=(hown2.alloc (tokO kd tx p1 p2)).alloc (tokO kd tx p1 p2)
     have hnew:=heap_alloc_new (w2.alloc (tokO kd tx p1 p2)) (tokO kd tx p1 p2)
     rw [World.size_alloc] at hnew
     have HOwn:=Lib.hid hown3
     have HNew:=Lib.hid hnew
     clear hR2 hb2 hown2 hown3 hnew
     go_wp2_with (at_builtin; refine wpList_append_lies _ rfl (.tmp 39) (.tmp 41) _ rfl (w.heap.size + 3) 92 i0 _ 4 40 Tryz.underlying56 hi hz0 hz1 hz2 rfl (by decide) _ n (toksV s acc) rfl HOwn.out ⟨w2.heap.size + 1,0,none⟩ 1 1 [.int .i64 kd,.string tx,.int .i64 p1,.int .i64 p2] rfl rfl (World.news_of_block (cs:=#[.int .i64 kd,.string tx,.int .i64 p1,.int .i64 p2]) (t:=92) (fr:=(0,0)) HNew.out) (by simp [Value.oneCell']) (by decide) ?_ ?_ ?_ (w2.heap.size + 2) ?_ ?_; (unfold maxLen; omega); omega; (simp; omega); (simp); intro gg cap4 w4 hown4 hgrow4 hat4 hlt4; have HM:=Lib.hid (toks_mid HL.out HB2.out HR2.out hgrow4); have k0:=cell_of_block' HM.out.tok (i:=0) rfl; have r0:=cell_of_block' HM.out.res (i:=0) rfl; have r1:=cell_of_block' HM.out.res (i:=1) rfl; have f0:=free_of_block' HM.out.res 0; have f1:=free_of_block' HM.out.res 1; have HOwn4:=Lib.hid hown4; have htop4:=HM.out.top; clear hgrow4 hown4)
     have HEnd:=Lib.hid (toks_next HL.out HG.out HPos.out hlt HO.out HFu.out hln' hle' (by have:=HM.out; rwa [HTx.out] at this) (by have:=HOwn4.out; rwa [HTx.out] at this))
     go_roundg (s.size - (g + ln))
     case rel => exact HEnd.out.1
     case measure => exact HEnd.out.2
   ·have HN:=Lib.hid (toks_wrong HPw.out (by omega) HG.out HPos.out hlt hO her hj (by omega) HL.out.rdr)
    have HT:=Lib.hid (toks_fault h HL.out HG.out hlt HO.out her)
    have e0:(er == 0) = false:=by simpa using her
    have e1:(er != 0) = true:=by simpa using her
    clear hO hge
    have HEr:=Lib.hid her
    clear her
    go_wp2_with fail
    refine (HN.out).mono ?_
    rintro e w2 ⟨rfl,hb2⟩
    have hres:=toks_res (tokO 0 ⟨#[]⟩ p1 p2) HL.out hb2
    have hsz2:=hb2.size
    have r0:=cell_of_block' hres (i:=0) rfl
    have r1:=cell_of_block' hres (i:=1) rfl
    have f0:=free_of_block' hres 0
    have f1:=free_of_block' hres 1
    have HRes:=Lib.hid hres
    have HB2:=Lib.hid hb2
    clear hres hb2
    go_wp2_with fail
    go_region
    all_goals
     go_wp2_with fail
     have q0:=fun u => (store_pair HRes.out u u).1
     have q1:=fun u v => (store_pair HRes.out u v).2
     refine bodyPost_ret (v:=.tuple #[.slice none 0 0,.agg #[.int .i64 p1,.int .i64 p2],.int .i64 er]) (by simp [results,Tryz.results17,go_sem,q0,q1]) rfl ?_
     exact toks_ret HL.out HB2.out HPos.out HT.out HEr.out
theorem stoks_any (s:ByteArray) (w:World) (hp:PairsIn w):Calls Tryz.prog 17 #[.string s] w (TokPost w s):=by
 by_cases h:65536 < s.size
 ·exact stoks_long s w h
 ·exact stoks_short s w hp (by omega)
end Go.Proofs.YtcofikjpplkjdaaGreatDoor
namespace Go.Proofs.YtcofikjpplkjdaaGreatDoor
open Go.RowKit CurSpec TermSpec ExprSpec NamesSpec ScanSpec
def tokOf (s:ByteArray) (t:Tok):Tk:=⟨t.kind,s.extract t.at_ (t.at_ + t.len),(pos s.data.toList t.at_).1,(pos s.data.toList t.at_).2⟩
theorem toks_map (s:ByteArray) (l:List Tok):toksV s l = tksV (l.map (tokOf s)):=by
 unfold toksV tksV
 rw [List.flatMap_map]
 rfl
def tkAll (s:ByteArray):List Tk:=(scanT s.data.toList).1.map (tokOf s)
def cur0 (L:List Tk):Cur:=⟨L,0,0,0,0,0⟩
theorem scanGo_len (l:List UInt8):∀ (f i:Nat) (acc:List Tok),acc.length ≤ 4000 → (scanGo l f i acc).1.length ≤ 4001
 | 0,i,acc,h => by simp [scanGo]; omega
 | f + 1,i,acc,h => by
   unfold scanGo
   split
   ·simp; omega
   ·dsimp only
    split
    ·simp
    split
    ·simp
    ·exact scanGo_len l f _ _ (by simp; omega)
theorem scanT_len (l:List UInt8):(scanT l).1.length ≤ 4001:=by
 unfold scanT
 split
 ·simp
 ·exact scanGo_len l _ _ _ (by simp)
theorem tkAll_ok (s:ByteArray) (h:s.size ≤ 9223372036854775807):Ok (cur0 (tkAll s)):=by
 intro t ht
 obtain ⟨x,_,rfl⟩:=List.mem_map.1 ht
 show (s.extract _ _).size ≤ _
 rw [ByteArray.size_extract]
 omega
end Go.Proofs.YtcofikjpplkjdaaGreatDoor
namespace Go.Proofs.YtcofikjpplkjdaaGreatDoor
namespace ExprSpec
open CurSpec TermSpec ScanSpec
theorem byte_all {P:UInt8 → Prop} (h:∀ n:Fin 256,P (UInt8.ofNat n.val)) (c:UInt8):P c:=by
 have:=h ⟨c.toNat,c.toNat_lt⟩
 simpa using this
theorem b_letter (c:UInt8):NamesSpec.letter c = true → clsB c = 1:=byte_all (P:=fun c => NamesSpec.letter c = true → clsB c = 1) (by decide +kernel) c
theorem b_later (c:UInt8):NamesSpec.later c = true → isWord c = true:=byte_all (P:=fun c => NamesSpec.later c = true → isWord c = true) (by decide +kernel) c
theorem b_dig (c:UInt8):ValSpec.isDig c = true → clsB c = 2 ∧ isNum c = true:=byte_all (P:=fun c => ValSpec.isDig c = true → clsB c = 2 ∧ isNum c = true) (by decide +kernel) c
def Stop (r:List UInt8):Prop:=∀ c,r.head? = some c → isWord c = false ∧ isNum c = false ∧ clsB c ≠ 1 ∧ clsB c ≠ 3
theorem stop_of {a:UInt8} (h:isWord a = false ∧ isNum a = false ∧ clsB a ≠ 1 ∧ clsB a ≠ 3) (r:List UInt8):Stop (a :: r):=by intro c hc; cases hc; exact h
theorem stop_32 (r:List UInt8):Stop (32 :: r):=stop_of (by decide) r
theorem stop_40 (r:List UInt8):Stop (40 :: r):=stop_of (by decide) r
theorem stop_41 (r:List UInt8):Stop (41 :: r):=stop_of (by decide) r
theorem stop_44 (r:List UInt8):Stop (44 :: r):=stop_of (by decide) r
theorem run_all {p:UInt8 → Bool}:∀ {s r:List UInt8},s.all p = true → (∀ c,r.head? = some c → p c = false) → run p (s ++ r) = s.length
 | [],[],_,_ => rfl
 | [],c :: r,_,h => by rw [List.nil_append,run,if_neg (by rw [h c rfl]; decide)]; rfl
 | a :: s,r,h,hr => by
   rw [List.all_cons,Bool.and_eq_true] at h
   rw [List.cons_append,run,if_pos h.1,run_all h.2 hr]
   rfl
theorem one_word {a:UInt8} {t r:List UInt8} (ha:clsB a = 1) (hw:(a :: t).all isWord = true) (hl:(a :: t).length ≤ 12) (hs:Stop r):ScanSpec.one (a :: t ++ r) = (1,(a :: t).length,0):=by
 have hr:=run_all hw (fun c hc => (hs c hc).1)
 unfold ScanSpec.one
 rw [if_pos (show cls (a :: t ++ r) 0 = 1 from ha),hr,if_neg (by omega)]
theorem cls_past (s r:List UInt8) (hs:Stop r):cls (s ++ r) s.length ≠ 1 ∧ cls (s ++ r) s.length ≠ 3:=by
 unfold cls
 rw [List.getElem?_append_right (Nat.le_refl _),Nat.sub_self]
 cases r with
 | nil => simp
 | cons c r => exact (hs c rfl).2.2
theorem one_num {a:UInt8} {t r:List UInt8} (ha:clsB a = 2) (hw:(a :: t).all isNum = true) (hl:(a :: t).length ≤ 9) (hs:Stop r):ScanSpec.one (a :: t ++ r) = (2,(a :: t).length,0):=by
 have hr:=run_all hw (fun c hc => (hs c hc).2.1)
 have hc:=cls_past (a :: t) r hs
 have h2:cls (a :: t ++ r) 0 = 2:=ha
 unfold ScanSpec.one
 rw [if_neg (by omega),if_pos h2,hr,if_neg (by omega),if_neg (by omega)]
theorem one_mark {s r:List UInt8} (hc:cls (s ++ r) 0 = 0) (h0:0 < s.length) (hm:markLen (s ++ r) = s.length):ScanSpec.one (s ++ r) = (3,s.length,0):=by
 unfold ScanSpec.one
 rw [if_neg (by omega),if_neg (by omega),hm,if_neg (by omega)]
def Sc (l:List UInt8):Nat → List Tx → Nat → Prop
 | i,[],j => i = j
 | i,(k,s) :: r,j => i < l.length ∧ ScanSpec.one (l.drop i) = (k,s.length,0) ∧ (l.drop i).take s.length = s ∧ 0 < s.length ∧ Sc l (gap l (i + s.length)) r j
theorem sc_app {l:List UInt8}:∀ {a b:List Tx} {i j k:Nat},Sc l i a j → Sc l j b k → Sc l i (a ++ b) k
 | [],b,i,j,k,h,h' => by cases h; exact h'
 | (_,_) :: a,b,i,j,k,h,h' => ⟨h.1,h.2.1,h.2.2.1,h.2.2.2.1,sc_app h.2.2.2.2 h'⟩
theorem drop_lt {l:List UInt8} {i:Nat} {c:UInt8} {r:List UInt8} (h:l.drop i = c :: r):i < l.length:=by
 have:=congrArg List.length h
 rw [List.length_drop,List.length_cons] at this
 omega
theorem drop_past {l:List UInt8} {i:Nat} {s r:List UInt8} (h:l.drop i = s ++ r):l.drop (i + s.length) = r:=by
 rw [← List.drop_drop,h,List.drop_left]
theorem sc_one {l:List UInt8} {i:Nat} {k:Int} {s r:List UInt8} (h:l.drop i = s ++ r) (h0:0 < s.length) (ho:ScanSpec.one (s ++ r) = (k,s.length,0)):Sc l i [(k,s)] (gap l (i + s.length)):=by
 refine ⟨?_,by rw [h]; exact ho,by rw [h,List.take_left],h0,rfl⟩
 match s,h0 with
 | a :: s,_ => exact drop_lt h
abbrev Sol (c:UInt8):Prop:=clsB c ≠ 4 ∧ clsB c ≠ 5 ∧ c ≠ 62
theorem cls_head {l:List UInt8} {i:Nat} {c:UInt8} {r:List UInt8} (h:l.drop i = c :: r):cls l i = clsB c:=by
 have:(l.drop i)[0]? = some c:=by rw [h]; rfl
 rw [List.getElem?_drop] at this
 exact cls_some this
theorem gap_here {l:List UInt8} {i:Nat} {c:UInt8} {r:List UInt8} (h:l.drop i = c :: r) (hs:Sol c):gap l i = i:=gap_stop (by rw [cls_head h]; exact hs.1) (by rw [cls_head h]; exact hs.2.1)
theorem gap_one {l:List UInt8} {i:Nat} {c:UInt8} {r:List UInt8} (h:l.drop i = 32 :: c :: r) (hs:Sol c):gap l i = i + 1:=by
 rw [← gap_blank (l:=l) (i:=i) (by rw [cls_head h]; rfl)]
 exact gap_here (drop_past (s:=[32]) h) hs
theorem bytes_app (a b:ByteArray):(a ++ b).data.toList = a.data.toList ++ b.data.toList:=by simp [ByteArray.data_append]
abbrev T (s:ByteArray):List UInt8:=s.data.toList
theorem bk_yes {b:Prop} [Decidable b] (h:b) (s:ByteArray):T (bk b s) = 40 :: (T s ++ [41]):=by
 rw [show bk b s = (⟨#[40]⟩ ++ s) ++ ⟨#[41]⟩ from if_pos h,T,bytes_app,bytes_app]
 rfl
theorem bk_no {b:Prop} [Decidable b] (h:¬ b) (s:ByteArray):T (bk b s) = T s:=by rw [show bk b s = s from if_neg h]
def Fst (s:List UInt8):Prop:=∃ c r,s = c :: r ∧ Sol c
theorem fst_bk {b:Prop} [Decidable b] {s:ByteArray} (h:Fst (T s)):Fst (T (bk b s)):=by
 by_cases hb:b
 ·rw [bk_yes hb]; exact ⟨40,_,rfl,by decide⟩
 ·rw [bk_no hb]; exact h
theorem fst_app {a b:List UInt8} (h:Fst a):Fst (a ++ b):=by
 obtain ⟨c,r,rfl,hc⟩:=h
 exact ⟨c,r ++ b,rfl,hc⟩
theorem sol_1 (c:UInt8):clsB c = 1 ∨ clsB c = 2 → Sol c:=byte_all (P:=fun c => clsB c = 1 ∨ clsB c = 2 → clsB c ≠ 4 ∧ clsB c ≠ 5 ∧ c ≠ 62) (by decide +kernel) c
theorem name_parts {s:List UInt8} (h:NamesSpec.isName s = true):∃ a t,s = a :: t ∧ clsB a = 1 ∧ (a :: t).all isWord = true ∧ (a :: t).length ≤ 12:=by
 unfold NamesSpec.isName at h
 simp only [Bool.and_eq_true,decide_eq_true_eq] at h
 obtain ⟨⟨⟨⟨h1,h2⟩,_⟩,h4⟩,h5⟩:=h
 match s,h1 with
 | a :: t,_ =>
   refine ⟨a,t,rfl,b_letter a (by simpa using h5),?_,h2⟩
   rw [List.all_eq_true] at h4 ⊢
   exact fun c hc => b_later c (h4 c hc)
theorem text_parts {n:Int} (h:0 ≤ n ∧ n ≤ 1000000):∃ a t,ValSpec.text n = a :: t ∧ clsB a = 2 ∧ (a :: t).all isNum = true ∧ (a :: t).length ≤ 9:=by
 have hl:(ValSpec.text n).length ≤ 9:=by
  unfold ValSpec.text
  rw [if_neg (by omega)]
  have:=ValSpec.digs_len 6 n.natAbs (by omega)
  omega
 have ha:(ValSpec.text n).all ValSpec.isDig = true:=by
  unfold ValSpec.text
  rw [if_neg (by omega)]
  exact ValSpec.digs_all _
 have hn:ValSpec.text n ≠ []:=by
  unfold ValSpec.text
  rw [if_neg (by omega)]
  exact ValSpec.digs_ne _
 match hs:ValSpec.text n,hn with
 | a :: t,_ =>
   rw [hs] at hl ha
   rw [List.all_eq_true] at ha
   refine ⟨a,t,rfl,(b_dig a (ha a (by simp))).1,?_,hl⟩
   rw [List.all_eq_true]
   exact fun c hc => (b_dig c (ha c hc)).2
theorem tx_fst:∀ {e:Ex},Good e → Fst (T (tx e))
 | .leaf t,h => by
   unfold tx
   rcases leaf_ops h.1 with h1 | h1 | h1 | h1 | h1
   ·rw [if_pos h1]
    obtain ⟨a,r,hs,ha,_⟩:=text_parts (may_num h1 h.2).1
    exact ⟨a,r,by rw [← hs,T,list_bs],sol_1 a (.inr ha)⟩
   ·rw [if_neg (by omega),if_pos h1]
    obtain ⟨a,r,hs,ha,_⟩:=name_parts (may_name (.inl h1) h.2).1
    exact ⟨a,r,hs,sol_1 a (.inl ha)⟩
   ·rw [if_neg (by omega),if_neg (by omega),if_pos h1]
    exact ⟨116,[114,117,101],rfl,by decide⟩
   ·rw [if_neg (by omega),if_neg (by omega),if_neg (by omega),if_pos h1]
    exact ⟨102,[97,108,115,101],rfl,by decide⟩
   ·rw [if_neg (by omega),if_neg (by omega),if_neg (by omega),if_neg (by omega),T,bytes_app,bytes_app]
    exact ⟨105,_,rfl,by decide⟩
 | .un o a,h => by
   unfold tx
   split
   ·rw [T,bytes_app]; exact ⟨45,_,rfl,by decide⟩
   ·rw [T,bytes_app]; exact ⟨110,_,rfl,by decide⟩
 | .bin o a b,h => by
   have ih:=tx_fst h.2.1
   unfold tx
   split
   ·simp only [T,bytes_app]; exact ⟨109,_,rfl,by decide⟩
   split
   ·simp only [T,bytes_app]; exact ⟨109,_,rfl,by decide⟩
   ·simp only [T,bytes_app]
    exact fst_app (fst_app (fst_app (fst_app (fst_bk ih))))
def Scs (s:ByteArray) (ts:List Tx):Prop:=∀ l i r,l.drop i = T s ++ r → Stop r → Sc l i ts (gap l (i + (T s).length))
theorem one_open (r:List UInt8):ScanSpec.one ([40] ++ r) = (3,[(40:UInt8)].length,0):=one_mark rfl (by decide) (by simp [markLen,marks,List.isPrefixOf])
theorem one_close (r:List UInt8):ScanSpec.one ([41] ++ r) = (3,[(41:UInt8)].length,0):=one_mark rfl (by decide) (by simp [markLen,marks,List.isPrefixOf])
theorem one_comma (r:List UInt8):ScanSpec.one ([44] ++ r) = (3,[(44:UInt8)].length,0):=one_mark rfl (by decide) (by simp [markLen,marks,List.isPrefixOf])
theorem one_neg {c:UInt8} (r:List UInt8) (h:c ≠ 62):ScanSpec.one ([45] ++ c :: r) = (3,[(45:UInt8)].length,0):=one_mark rfl (by decide) (by
 have:(62 == c) = false:=by simpa using fun e:62 = c => h e.symm
 simp [markLen,marks,List.isPrefixOf,this])
theorem scs_bk {b:Prop} [Decidable b] {s:ByteArray} {ts:List Tx} (hf:Fst (T s)) (h:Scs s ts):Scs (bk b s) (twr b ts):=by
 intro l i r hd hr
 by_cases hb:b
 ·rw [bk_yes hb] at hd ⊢
  rw [show twr b ts = (3,[40]) :: (ts ++ [(3,[41])]) from if_pos hb]
  obtain ⟨c,q,hc,hsol⟩:=hf
  have h0:l.drop i = [40] ++ (T s ++ ([41] ++ r)):=by rw [hd]; simp
  have h1:l.drop (i + 1) = T s ++ ([41] ++ r):=drop_past (s:=[40]) h0
  have g1:gap l (i + 1) = i + 1:=gap_here (c:=c) (r:=q ++ ([41] ++ r)) (by rw [h1,hc]; rfl) hsol
  have s1:=sc_one h0 (by decide) (one_open _)
  rw [show i + [(40:UInt8)].length = i + 1 from rfl,g1] at s1
  have s2:=h l (i + 1) ([41] ++ r) h1 (stop_41 r)
  have h2:l.drop (i + 1 + (T s).length) = [41] ++ r:=drop_past h1
  rw [gap_here (c:=41) (r:=r) h2 (by decide)] at s2
  have s3:=sc_one h2 (by decide) (one_close _)
  have:=sc_app s1 (sc_app s2 s3)
  rwa [show i + 1 + (T s).length + [(41:UInt8)].length = i + (40 :: (T s ++ [41])).length by simp; omega] at this
 ·rw [bk_no hb] at hd ⊢
  rw [show twr b ts = ts from if_neg hb]
  exact h l i r hd hr
theorem sc_word {l:List UInt8} {i:Nat} {s r:List UInt8} (h:l.drop i = s ++ r) (hs:∃ a t,s = a :: t ∧ clsB a = 1 ∧ (a :: t).all isWord = true ∧ (a :: t).length ≤ 12) (hr:Stop r):Sc l i [(1,s)] (gap l (i + s.length)):=by
 obtain ⟨a,t,rfl,ha,hw,hl⟩:=hs
 exact sc_one h (by simp) (one_word ha hw hl hr)
theorem scs_leaf {t:Tm} (h:Good (.leaf t)):Scs (tx (.leaf t)) (tk (.leaf t)):=by
 intro l i r hd hr
 unfold tx at hd ⊢
 unfold tk
 rcases leaf_ops h.1 with h1 | h1 | h1 | h1 | h1
 ·rw [if_pos h1] at hd ⊢
  rw [if_pos h1]
  obtain ⟨a,q,hs,ha,hn,hl⟩:=text_parts (may_num h1 h.2).1
  rw [T,list_bs] at hd ⊢
  rw [hs] at hd ⊢
  exact sc_one hd (by simp) (one_num ha hn hl hr)
 ·rw [if_neg (by omega),if_pos h1] at hd ⊢
  rw [if_neg (by omega),if_pos h1]
  exact sc_word hd (name_parts (may_name (.inl h1) h.2).1) hr
 ·rw [if_neg (by omega),if_neg (by omega),if_pos h1] at hd ⊢
  rw [if_neg (by omega),if_neg (by omega),if_pos h1]
  exact sc_word hd ⟨116,[114,117,101],rfl,by decide,by decide,by decide⟩ hr
 ·rw [if_neg (by omega),if_neg (by omega),if_neg (by omega),if_pos h1] at hd ⊢
  rw [if_neg (by omega),if_neg (by omega),if_neg (by omega),if_pos h1]
  exact sc_word hd ⟨102,[97,108,115,101],rfl,by decide,by decide,by decide⟩ hr
 ·rw [if_neg (by omega),if_neg (by omega),if_neg (by omega),if_neg (by omega)] at hd ⊢
  rw [if_neg (by omega),if_neg (by omega),if_neg (by omega),if_neg (by omega)]
  have hn:=name_parts (may_name (.inr h1) h.2).1
  rw [T,bytes_app,bytes_app] at hd ⊢
  generalize t.s.data.toList = s at hd hn ⊢
  obtain ⟨a,q,hs,ha,hw,hl⟩:=hn
  have h0:l.drop i = [105,110] ++ ([40] ++ (s ++ ([41] ++ r))):=by
   rw [hd]; simp
  have hh1:l.drop (i + 2) = [40] ++ (s ++ ([41] ++ r)):=drop_past (s:=[105,110]) h0
  have hh2:l.drop (i + 2 + 1) = s ++ ([41] ++ r):=drop_past (s:=[40]) hh1
  have hh3:l.drop (i + 2 + 1 + s.length) = [41] ++ r:=drop_past hh2
  have s0:=sc_word h0 ⟨105,[110],rfl,by decide,by decide,by decide⟩ (stop_40 _)
  rw [show i + [(105:UInt8),110].length = i + 2 from rfl,gap_here (c:=40) hh1 (by decide)] at s0
  have s1:=sc_one hh1 (by decide) (one_open _)
  rw [show i + 2 + [(40:UInt8)].length = i + 2 + 1 from rfl,gap_here (c:=a) (r:=q ++ ([41] ++ r)) (by rw [hh2,hs]; rfl) (sol_1 a (.inl ha))] at s1
  have s2:=sc_word hh2 ⟨a,q,hs,ha,hw,hl⟩ (stop_41 r)
  rw [gap_here (c:=41) hh3 (by decide)] at s2
  have s3:=sc_one hh3 (by decide) (one_close _)
  have:=sc_app s0 (sc_app s1 (sc_app s2 s3))
  rwa [show i + 2 + 1 + s.length + [(41:UInt8)].length = i + (([105,110,40]:List UInt8) ++ s ++ [41]).length by simp; omega] at this
theorem scs_un {o:Int} {a:Ex} (h:Good (.un o a)) (ih:Scs (tx a) (tk a)):Scs (tx (.un o a)) (tk (.un o a)):=by
 intro l i r hd hr
 have hf:=tx_fst h.2
 have e1:tx (.un o a) = if o = 3 then ⟨#[45]⟩ ++ bk (lev a < 7) (tx a) else ⟨#[110,111,116,32]⟩ ++ bk (lev a < 3) (tx a):=rfl
 have e2:tk (.un o a) = if o = 3 then (3,[45]) :: twr (lev a < 7) (tk a) else (1,lNot) :: twr (lev a < 3) (tk a):=rfl
 rw [e1] at hd ⊢
 rw [e2]
 by_cases ho:o = 3
 ·rw [if_pos ho] at hd ⊢
  rw [if_pos ho]
  have hb:=scs_bk (b:=lev a < 7) hf ih
  obtain ⟨c,q,hc,hsol⟩:=fst_bk (b:=lev a < 7) hf
  rw [T,bytes_app] at hd ⊢
  have h0:l.drop i = [45] ++ (T (bk (lev a < 7) (tx a)) ++ r):=by rw [hd]; simp
  have h1:l.drop (i + 1) = T (bk (lev a < 7) (tx a)) ++ r:=drop_past (s:=[45]) h0
  have s0:=sc_one (k:=3) h0 (by decide) (by rw [hc]; exact one_neg _ hsol.2.2)
  rw [show i + [(45:UInt8)].length = i + 1 from rfl,gap_here (c:=c) (r:=q ++ r) (by rw [h1,hc]; rfl) hsol] at s0
  have:=sc_app s0 (hb l (i + 1) r h1 hr)
  rwa [show i + 1 + (T (bk (lev a < 7) (tx a))).length = i + (([45]:List UInt8) ++ T (bk (lev a < 7) (tx a))).length by simp; omega] at this
 ·rw [if_neg ho] at hd ⊢
  rw [if_neg ho]
  have hb:=scs_bk (b:=lev a < 3) hf ih
  obtain ⟨c,q,hc,hsol⟩:=fst_bk (b:=lev a < 3) hf
  rw [T,bytes_app] at hd ⊢
  have h0:l.drop i = lNot ++ ([32] ++ (T (bk (lev a < 3) (tx a)) ++ r)):=by rw [hd]; simp [lNot]
  have h1:l.drop (i + 3) = [32] ++ (T (bk (lev a < 3) (tx a)) ++ r):=drop_past (s:=lNot) h0
  have h2:l.drop (i + 3 + 1) = T (bk (lev a < 3) (tx a)) ++ r:=drop_past (s:=[32]) h1
  have s0:=sc_word h0 ⟨110,[111,116],rfl,by decide,by decide,by decide⟩ (stop_32 _)
  rw [show i + lNot.length = i + 3 from rfl,gap_one (c:=c) (r:=q ++ r) (by rw [h1,hc]; rfl) hsol] at s0
  have:=sc_app s0 (hb l (i + 3 + 1) r h2 hr)
  rwa [show i + 3 + 1 + (T (bk (lev a < 3) (tx a))).length = i + (([110,111,116,32]:List UInt8) ++ T (bk (lev a < 3) (tx a))).length by simp; omega] at this
theorem scs_two {w:List UInt8} {a b:Ex} (ha:Good a) (hb:Good b) (iha:Scs (tx a) (tk a)) (ihb:Scs (tx b) (tk b)) (hw:∃ x t,w = x :: t ∧ clsB x = 1 ∧ (x :: t).all isWord = true ∧ (x :: t).length ≤ 12) {l:List UInt8} {i:Nat} {r:List UInt8}
 (hd:l.drop i = w ++ ([40] ++ (T (tx a) ++ ([44] ++ ([32] ++ (T (tx b) ++ ([41] ++ r))))))) :
 Sc l i ((1,w) :: (3,[40]) :: (tk a ++ (3,[44]) :: (tk b ++ [(3,[41])]))) (gap l (i + w.length + 1 + (T (tx a)).length + 1 + 1 + (T (tx b)).length + 1)):=by
 obtain ⟨c,q,hc,hsol⟩:=tx_fst ha
 obtain ⟨d,p,hp,hsol'⟩:=tx_fst hb
 have h1:=drop_past hd
 have h2:=drop_past h1
 have h3:=drop_past h2
 have h4:=drop_past h3
 have h5:=drop_past h4
 have h6:=drop_past h5
 have s0:=sc_word hd hw (stop_40 _)
 rw [gap_here (c:=40) h1 (by decide)] at s0
 have s1:=sc_one h1 (by decide) (one_open _)
 rw [gap_here (c:=c) (r:=q ++ ([44] ++ ([32] ++ (T (tx b) ++ ([41] ++ r))))) (by rw [h2,hc]; rfl) hsol] at s1
 have s2:=iha _ _ _ h2 (stop_44 _)
 rw [gap_here (c:=44) h3 (by decide)] at s2
 have s3:=sc_one h3 (by decide) (one_comma _)
 rw [gap_one (c:=d) (r:=p ++ ([41] ++ r)) (by rw [h4,hp]; rfl) hsol'] at s3
 have s4:=ihb _ _ _ h5 (stop_41 _)
 rw [gap_here (c:=41) h6 (by decide)] at s4
 have s5:=sc_one h6 (by decide) (one_close _)
 exact sc_app s0 (sc_app s1 (sc_app s2 (sc_app s3 (sc_app s4 s5))))
theorem sg_one:∀ s ∈ sgs,∀ r,ScanSpec.one (s.t.data.toList ++ 32 :: r) = ((if s.lev ≤ 2 then 1 else 3),s.t.data.toList.length,0):=by
 intro s hs r
 unfold sgs at hs
 simp only [List.mem_cons,List.not_mem_nil,or_false] at hs
 rcases hs with rfl | rfl | rfl | rfl | rfl | rfl | rfl | rfl | rfl | rfl | rfl
 ·exact one_word (a:=111) (t:=[114]) rfl (by decide) (by decide) (stop_32 r)
 ·exact one_word (a:=97) (t:=[110,100]) rfl (by decide) (by decide) (stop_32 r)
 all_goals exact one_mark rfl (by decide) (by simp [markLen,marks,List.isPrefixOf])
theorem gap_one' {l:List UInt8} {i:Nat} {c:UInt8} {r:List UInt8} (h:l.drop i = 32 :: c :: r) (h4:clsB c ≠ 4) (h5:clsB c ≠ 5):gap l i = i + 1:=by
 rw [← gap_blank (l:=l) (i:=i) (by rw [cls_head h]; rfl)]
 have h1:l.drop (i + 1) = c :: r:=drop_past (s:=[32]) h
 exact gap_stop (by rw [cls_head h1]; exact h4) (by rw [cls_head h1]; exact h5)
theorem sg_fst:∀ s ∈ sgs,∃ c r,s.t.data.toList = c :: r ∧ clsB c ≠ 4 ∧ clsB c ≠ 5:=by
 intro s hs
 unfold sgs at hs
 simp only [List.mem_cons,List.not_mem_nil,or_false] at hs
 rcases hs with rfl | rfl | rfl | rfl | rfl | rfl | rfl | rfl | rfl | rfl | rfl
 all_goals exact ⟨_,_,rfl,by decide,by decide⟩
theorem scs_bin {o:Int} {a b:Ex} (h:Good (.bin o a b)) (iha:Scs (tx a) (tk a)) (ihb:Scs (tx b) (tk b)):Scs (tx (.bin o a b)) (tk (.bin o a b)):=by
 intro l i r hd hr
 have e1:tx (.bin o a b) = if o = 7 then (((⟨#[109,105,110,40]⟩ ++ tx a) ++ ⟨#[44,32]⟩) ++ tx b) ++ ⟨#[41]⟩
  else if o = 8 then (((⟨#[109,97,120,40]⟩ ++ tx a) ++ ⟨#[44,32]⟩) ++ tx b) ++ ⟨#[41]⟩
  else (((bk (lev a < (sgOf o).left) (tx a) ++ ⟨#[32]⟩) ++ (sgOf o).t) ++ ⟨#[32]⟩) ++ bk (lev b < (sgOf o).right) (tx b):=rfl
 have e2:tk (.bin o a b) = if o = 7 then (1,lMin) :: (3,[40]) :: (tk a ++ (3,[44]) :: (tk b ++ [(3,[41])]))
  else if o = 8 then (1,lMax) :: (3,[40]) :: (tk a ++ (3,[44]) :: (tk b ++ [(3,[41])]))
  else twr (lev a < (sgOf o).left) (tk a) ++ ((if (sgOf o).lev ≤ 2 then 1 else 3,(sgOf o).t.data.toList) :: twr (lev b < (sgOf o).right) (tk b)):=rfl
 rw [e1] at hd ⊢
 rw [e2]
 by_cases h7:o = 7
 ·rw [if_pos h7] at hd ⊢
  rw [if_pos h7]
  simp only [T,bytes_app] at hd ⊢
  have:=scs_two (w:=lMin) h.2.1 h.2.2 iha ihb ⟨109,[105,110],rfl,by decide,by decide,by decide⟩ (l:=l) (i:=i) (r:=r) (by rw [hd]; simp [lMin])
  rwa [show i + lMin.length + 1 + (T (tx a)).length + 1 + 1 + (T (tx b)).length + 1 = i + (([109,105,110,40]:List UInt8) ++ T (tx a) ++ [44,32] ++ T (tx b) ++ [41]).length by simp [lMin]; omega] at this
 by_cases h8:o = 8
 ·rw [if_neg h7,if_pos h8] at hd ⊢
  rw [if_neg h7,if_pos h8]
  simp only [T,bytes_app] at hd ⊢
  have:=scs_two (w:=lMax) h.2.1 h.2.2 iha ihb ⟨109,[97,120],rfl,by decide,by decide,by decide⟩ (l:=l) (i:=i) (r:=r) (by rw [hd]; simp [lMax])
  rwa [show i + lMax.length + 1 + (T (tx a)).length + 1 + 1 + (T (tx b)).length + 1 = i + (([109,97,120,40]:List UInt8) ++ T (tx a) ++ [44,32] ++ T (tx b) ++ [41]).length by simp [lMax]; omega] at this
 ·rw [if_neg h7,if_neg h8] at hd ⊢
  rw [if_neg h7,if_neg h8]
  have hm:=(sgOf_mem h.1 (by omega)).1
  obtain ⟨s,hs⟩:∃ s,s = sgOf o:=⟨_,rfl⟩
  rw [← hs] at hd hm ⊢
  have ba:=scs_bk (b:=lev a < s.left) (tx_fst h.2.1) iha
  have bb:=scs_bk (b:=lev b < s.right) (tx_fst h.2.2) ihb
  obtain ⟨d,p,hp,hsol⟩:=fst_bk (b:=lev b < s.right) (tx_fst h.2.2)
  obtain ⟨c,q,hc,h4',h5'⟩:=sg_fst s hm
  have ho:=sg_one s hm
  simp only [T,bytes_app] at hd ⊢
  have h0:l.drop i = T (bk (lev a < s.left) (tx a)) ++ ([32] ++ (T s.t ++ ([32] ++ (T (bk (lev b < s.right) (tx b)) ++ r)))):=by rw [hd]; simp
  have h1:=drop_past h0
  have h2:=drop_past h1
  have h3:=drop_past h2
  have h4:=drop_past h3
  have s0:=ba _ _ _ h0 (stop_32 _)
  rw [gap_one' (c:=c) (r:=q ++ ([32] ++ (T (bk (lev b < s.right) (tx b)) ++ r))) (by rw [h1,show T s.t = c :: q from hc]; rfl) h4' h5'] at s0
  have s1:=sc_one h2 (by rw [show T s.t = c :: q from hc]; simp) (ho _)
  rw [gap_one (c:=d) (r:=p ++ r) (by rw [h3,hp]; rfl) hsol] at s1
  have s2:=bb _ _ _ h4 hr
  have:=sc_app s0 (sc_app s1 s2)
  rwa [show i + (T (bk (lev a < s.left) (tx a))).length + [(32:UInt8)].length + (T s.t).length + [(32:UInt8)].length + (T (bk (lev b < s.right) (tx b))).length = i + (T (bk (lev a < s.left) (tx a)) ++ [32] ++ T s.t ++ [32] ++ T (bk (lev b < s.right) (tx b))).length by simp; omega] at this
theorem scs_all:∀ e:Ex,Good e → Scs (tx e) (tk e)
 | .leaf _,h => scs_leaf h
 | .un _ a,h => scs_un h (scs_all a h.2)
 | .bin _ a b,h => scs_bin h (scs_all a h.2.1) (scs_all b h.2.2)
def toksAt (l:List UInt8):Nat → List Tx → List Tok
 | _,[] => []
 | i,(k,s) :: r => ⟨k,i,s.length⟩ :: toksAt l (gap l (i + s.length)) r
theorem scan_sc {l:List UInt8}:∀ (ts:List Tx) (i j f:Nat) (acc:List Tok),Sc l i ts j → l.length ≤ j → l.length ≤ i + f → acc.length + ts.length ≤ 4000 → scanGo l f i acc = (acc ++ toksAt l i ts ++ [⟨0,j,0⟩],0,0)
 | [],i,j,f,acc,h,hj,_,_ => by
   cases h
   cases f with
   | zero => simp [scanGo,toksAt]
   | succ f => rw [scanGo,if_pos hj]; simp [toksAt]
 | (k,s) :: r,i,j,f,acc,⟨h1,h2,h3,h4,h5⟩,hj,hf,ha => by
   cases f with
   | zero => omega
   | succ f =>
     rw [List.length_cons] at ha
     have hle:i + s.length ≤ l.length:=by
      have:=congrArg List.length h3
      rw [List.length_take,List.length_drop] at this
      omega
     have hg:=(gap_bd hle).1
     rw [scanGo,if_neg (by omega),h2]
     dsimp only
     rw [if_neg (by simp),if_neg (by omega),scan_sc r _ j f _ h5 hj (by omega) (by rw [List.length_append,List.length_singleton]; omega)]
     simp [toksAt]
theorem nx_toks {s:ByteArray}:∀ (ts:List Tx) (i j:Nat) (c:Cur) (tl:List Tk),Sc (T s) i ts j → c.bad = 0 → c.L = (toksAt (T s) i ts).map (tokOf s) ++ tl → Nx c ts ∧ (onN ts.length c).L = tl
 | [],i,j,c,tl,_,_,hc => ⟨trivial,hc⟩
 | (k,x) :: r,i,j,c,tl,⟨h1,h2,h3,h4,h5⟩,hb,hc => by
   rw [toksAt,List.map_cons,List.cons_append] at hc
   have hon:on c = ⟨(toksAt (T s) (gap (T s) (i + x.length)) r).map (tokOf s) ++ tl,(tokOf s ⟨k,i,x.length⟩).l,(tokOf s ⟨k,i,x.length⟩).c,c.a1,c.a2,c.bad⟩:=by unfold on; rw [hc]
   have hnx:next c = tokOf s ⟨k,i,x.length⟩:=by unfold next; rw [if_pos hb,hc]
   have ih:=nx_toks r _ j (on c) tl h5 (by rw [hon]; exact hb) (by rw [hon])
   refine ⟨⟨by rw [hnx]; rfl,?_,ih.1⟩,ih.2⟩
   rw [hnx]
   show s.extract i (i + x.length) = bs x
   apply ByteArray.ext
   apply Array.toList_inj.mp
   rw [ByteArray.data_extract,Array.toList_extract,List.extract_eq_take_drop,show i + x.length - i = x.length by omega]
   exact h3
theorem tk_len:∀ {e:Ex},Good e → (tk e).length ≤ 6 * (flat e).length
 | .leaf t,h => by
   show _ ≤ 6
   unfold tk
   repeat' split
   all_goals simp
 | .un o a,h => by
   have ih:=tk_len h.2
   show _ ≤ 6 * ((flat a).length + 1)
   unfold tk twr
   repeat' split
   all_goals simp only [List.length_cons,List.length_append,List.length_nil]; omega
 | .bin o a b,h => by
   have iha:=tk_len h.2.1
   have ihb:=tk_len h.2.2
   show _ ≤ 6 * ((flat a ++ flat b).length + 1)
   rw [List.length_append]
   unfold tk twr
   repeat' split
   all_goals simp only [List.length_cons,List.length_append,List.length_nil]; omega
end ExprSpec
end Go.Proofs.YtcofikjpplkjdaaGreatDoor
namespace Go.Proofs.YtcofikjpplkjdaaGreatDoor
namespace ActSpec
open CurSpec TermSpec EvalSpec NamesSpec ExprSpec ScanSpec
def tkA (t:Ta):List Tx:=if t.any then [(1,[97,110,121]),(1,T t.s)] else (1,T t.s) :: (3,[58,61]) :: tk t.e
def tkL:List Ta → List Tx
 | [] => []
 | [t] => tkA t
 | t :: u :: r => tkA t ++ (3,[44]) :: tkL (u :: r)
theorem txA_any {t:Ta} (h:t.any = true):T (txA t) = [97,110,121] ++ ([32] ++ T t.s):=by
 unfold txA
 rw [if_pos h,T,bytes_app]
 rfl
theorem txA_set {t:Ta} (h:t.any = false):T (txA t) = T t.s ++ ([32] ++ ([58,61] ++ ([32] ++ T (tx t.e)))):=by
 unfold txA
 rw [if_neg (by rw [h]; decide),T,bytes_app,bytes_app]
 simp
theorem txA_fst {t:Ta} (h:t.Ok):Fst (T (txA t)):=by
 rcases ha:t.any with _ | _
 ·rw [txA_set ha]
  obtain ⟨a,q,hs,hc,_⟩:=name_parts h.1
  rw [show T t.s = a :: q from hs]
  exact ⟨a,_,rfl,sol_1 a (.inl hc)⟩
 ·rw [txA_any ha]
  exact ⟨97,_,rfl,by decide⟩
theorem one_set (r:List UInt8):ScanSpec.one ([58,61] ++ r) = (3,[(58:UInt8),61].length,0):=ExprSpec.one_mark rfl (by decide) (by simp [markLen,marks,List.isPrefixOf])
theorem scs_act {t:Ta} (h:t.Ok):Scs (txA t) (tkA t):=by
 intro l i r hd hr
 unfold tkA
 have hn:=name_parts h.1
 rcases ha:t.any with _ | _
 ·rw [txA_set ha] at hd ⊢
  rw [if_neg (by decide)]
  obtain ⟨hg,-⟩:=h.2 ha
  obtain ⟨c,q,hc,hsol⟩:=tx_fst hg
  have h0:l.drop i = T t.s ++ ([32] ++ ([58,61] ++ ([32] ++ (T (tx t.e) ++ r)))):=by rw [hd]; simp
  have h1:=drop_past h0
  have h2:=drop_past h1
  have h3:=drop_past h2
  have h4:=drop_past h3
  have s0:=sc_word h0 hn (stop_32 _)
  rw [gap_one' (c:=58) (r:=[61] ++ ([32] ++ (T (tx t.e) ++ r))) h1 (by decide) (by decide)] at s0
  have s1:=sc_one h2 (by decide) (one_set _)
  rw [gap_one (c:=c) (r:=q ++ r) (by rw [h3,hc]; rfl) hsol] at s1
  have s2:=scs_all t.e hg _ _ _ h4 hr
  have:=sc_app s0 (sc_app s1 s2)
  rwa [show i + (T t.s).length + [(32:UInt8)].length + [(58:UInt8),61].length + [(32:UInt8)].length + (T (tx t.e)).length = i + (T t.s ++ ([32] ++ ([58,61] ++ ([32] ++ T (tx t.e))))).length by simp; omega] at this
 ·rw [txA_any ha] at hd ⊢
  rw [if_pos rfl]
  have h0:l.drop i = [97,110,121] ++ ([32] ++ (T t.s ++ r)):=by rw [hd]; simp
  have h1:=drop_past h0
  have h2:=drop_past h1
  obtain ⟨a,q,hs,hca,hw,hl⟩:=hn
  have s0:=sc_word h0 ⟨97,[110,121],rfl,by decide,by decide,by decide⟩ (stop_32 _)
  rw [gap_one (c:=a) (r:=q ++ r) (by rw [h1,show T t.s = a :: q from hs]; rfl) (sol_1 a (.inl hca))] at s0
  have s1:=sc_word h2 ⟨a,q,hs,hca,hw,hl⟩ hr
  have:=sc_app s0 s1
  rwa [show i + [(97:UInt8),110,121].length + [(32:UInt8)].length + (T t.s).length = i + ([97,110,121] ++ ([32] ++ T t.s)).length by simp; omega] at this
theorem putT_cons (t u:Ta) (r:List Ta):putT (t :: u :: r) = T (txA t) ++ ([44] ++ ([32] ++ putT (u :: r))):=by
 unfold putT
 rw [List.map_cons,Lib.join_cons,List.map_cons,Lib.join_cons]
 simp [Lib.joinTail]
theorem putT_one (t:Ta):putT [t] = T (txA t):=by unfold putT; rw [List.map_cons,List.map_nil,Lib.join_one]
theorem putT_fst {t:Ta} (h:t.Ok) (r:List Ta):Fst (putT (t :: r)):=by
 cases r with
 | nil => rw [putT_one]; exact txA_fst h
 | cons u r => rw [putT_cons]; exact fst_app (txA_fst h)
theorem sc_acts {l:List UInt8}:∀ {ts:List Ta} {i:Nat} {r:List UInt8},ts ≠ [] → (∀ t ∈ ts,t.Ok) → l.drop i = putT ts ++ r → Stop r → Sc l i (tkL ts) (gap l (i + (putT ts).length))
 | [],_,_,h,_,_,_ => absurd rfl h
 | [t],i,r,_,h,hd,hr => by
   rw [putT_one] at hd ⊢
   exact scs_act (h t (by simp)) l i r hd hr
 | t :: u :: q,i,r,_,h,hd,hr => by
   rw [putT_cons] at hd ⊢
   have h0:l.drop i = T (txA t) ++ ([44] ++ ([32] ++ (putT (u :: q) ++ r))):=by rw [hd]; simp
   have h1:=drop_past h0
   have h2:=drop_past h1
   have h3:=drop_past h2
   obtain ⟨c,z,hc,hsol⟩:=putT_fst (h u (by simp)) q
   have s0:=scs_act (h t (by simp)) l i _ h0 (stop_44 _)
   rw [gap_here (c:=44) h1 (by decide)] at s0
   have s1:=sc_one h1 (by decide) (one_comma _)
   rw [gap_one (c:=c) (r:=z ++ r) (by rw [h2,hc]; rfl) hsol] at s1
   have s2:=sc_acts (ts:=u :: q) (by simp) (fun v hv => h v (by simp only [List.mem_cons] at hv ⊢; exact .inr hv)) h3 hr
   have:=sc_app s0 (sc_app s1 s2)
   rwa [show i + (T (txA t)).length + [(44:UInt8)].length + [(32:UInt8)].length + (putT (u :: q)).length = i + (T (txA t) ++ ([44] ++ ([32] ++ putT (u :: q)))).length by simp; omega] at this
def Past (c:Cur):Prop:=(next c).k = 0 ∨ ((next c).k = 3 ∧ ExprSpec.look (next c).t = none)
theorem past_mark {c:Cur} {s:ByteArray} (h1:(next c).k = 3) (h2:(next c).t = s) (h:ExprSpec.look s = none):Past c:=.inr ⟨h1,by rw [h2]; exact h⟩
theorem past_sign {c:Cur} (h:Past c) (L k:Int):sgn c L k = none:=by
 rcases h with h | h
 ·exact end_sign h L k
 ·refine sgn_none fun s hs => ?_
  have h1:=(sgn_some hs).1
  rw [h.2] at h1
  cases h1
theorem rdE_tree {e:Ex} (hg:ExprSpec.Good e) (hk:chk (flat e) = 0) {c:Cur} (h0:c.bad = 0) (hn:Nx c (tk e)) (hp:Past (onN (tk e).length c)):rdE c = (onN (tk e).length c,flat e):=by
 have hbad:(onN (tk e).length c).bad = 0:=by rw [onN_bad]; exact h0
 have hq:Qu (lev e) (onN (tk e).length c):=fun s hs => by rw [past_sign hp] at hs; cases hs
 have hR:S (c.L.length + 1) c 1 = (onN (tk e).length c,flat e):=by
  rw [reads_all e hg c _ 1 h0 hn hq (by decide) (lev_pos hg).1 (by decide) (fit_self c)]
  exact C_stop _ _ (past_sign hp _ _)
 unfold rdE readP
 rw [hR]
 dsimp only
 rw [if_pos hbad,hk,fail_zero,if_pos rfl]
theorem bs_T (s:ByteArray):bs (T s) = s:=by apply ByteArray.ext; simp [bs]
theorem name_yes {c:Cur} {s:ByteArray} (h0:c.bad = 0) (h1:(next c).k = 1) (h2:(next c).t = bs (T s)) (hn:isName s.data.toList = true):nameC c = on c ∧ nameS c = s:=by
 rw [bs_T] at h2
 have hb:nameB c = true:=by unfold nameB; rw [h2]; simp [h0,h1,hn]
 unfold nameC nameS
 rw [if_pos hb,if_pos hb]
 exact ⟨rfl,h2⟩
theorem oneR_act {t:Ta} (h:t.Ok) {c:Cur} (h0:c.bad = 0) (hn:Nx c (tkA t)) (hp:Past (onN (tkA t).length c)):oneR c = (onN (tkA t).length c,t.ac):=by
 have h0':(on c).bad = 0:=by rw [(on_bad c).1]; exact h0
 rcases ha:t.any with _ | _
 ·have hk:tkA t = (1,T t.s) :: (3,[58,61]) :: tk t.e:=by unfold tkA; rw [if_neg (by rw [ha]; decide)]
  rw [hk] at hn hp ⊢
  obtain ⟨hg,hck⟩:=h.2 ha
  obtain ⟨h1,h2,h3,h4,h5⟩:=hn
  obtain ⟨hc,hs⟩:=name_yes h0 h1 h2 h.1
  have hna:¬ isB c 1 wAny = true:=isB_ne (by rw [h2,bs_T]; exact name_ne h.1 (by decide))
  have hw:want (on c) 3 wSet = on (on c):=if_pos (isB_yes' h0' h3 h4)
  have hac:t.ac = ⟨t.s,false,flat t.e⟩:=by unfold Ta.ac; rw [ha]; rfl
  unfold oneR
  rw [if_neg hna,hc,hs,hw,rdE_tree hg hck (c:=on (on c)) (by rw [(on_bad _).1]; exact h0') h5 hp,hac]
  rfl
 ·have hk:tkA t = [(1,[97,110,121]),(1,T t.s)]:=by unfold tkA; rw [if_pos ha]
  rw [hk] at hn ⊢
  obtain ⟨h1,h2,h3,h4,-⟩:=hn
  obtain ⟨hc,hs⟩:=name_yes h0' h3 h4 h.1
  have hya:isB c 1 wAny = true:=isB_yes' h0 h1 h2
  have hac:t.ac = ⟨t.s,true,[]⟩:=by unfold Ta.ac; rw [ha]; rfl
  unfold oneR
  rw [if_pos hya,hc,hs,hac]
  rfl
theorem allR_acts:∀ {ts:List Ta} {c:Cur} {out:List Ac},ts ≠ [] → (∀ t ∈ ts,t.Ok) → out.length + ts.length ≤ 8 → c.bad = 0 → Nx c (tkL ts) → Past (onN (tkL ts).length c) → ¬ isB (onN (tkL ts).length c) 3 wCom = true → allR c out = (onN (tkL ts).length c,out ++ ts.map Ta.ac)
 | [],_,_,h,_,_,_,_,_,_ => absurd rfl h
 | [t],c,out,_,h,h8,h0,hn,hp,hnc => by
   have h8':out.length < 8:=by simp only [List.length_cons,List.length_nil] at h8; omega
   have h1:=oneR_act (h t (by simp)) h0 hn hp
   have hs:stepR c out = (onN (tkA t).length c,out ++ [t.ac]):=by
    unfold stepR fullR
    rw [if_neg (by omega),h1]
   rw [allR_step,hs]
   exact tailR_no (c:=onN (tkA t).length c) (out:=out ++ [t.ac]) hnc
 | t :: u :: r,c,out,_,h,h8,h0,hn,hp,hnc => by
   have h8':out.length < 8:=by simp only [List.length_cons] at h8; omega
   rw [show tkL (t :: u :: r) = tkA t ++ (3,[44]) :: tkL (u :: r) from rfl] at hn hp hnc ⊢
   rw [nx_app] at hn
   obtain ⟨hn1,hn2,hn3,hn4⟩:=hn
   have h1:=oneR_act (h t (by simp)) h0 hn1 (past_mark hn2 hn3 (by decide))
   have hbad:(onN (tkA t).length c).bad = 0:=by rw [onN_bad]; exact h0
   have hs:stepR c out = (onN (tkA t).length c,out ++ [t.ac]):=by
    unfold stepR fullR
    rw [if_neg (by omega),h1]
   have hL:∀ x,onN (tkA t ++ (3,[44]) :: tkL (u :: r)).length x = onN (tkL (u :: r)).length (on (onN (tkA t).length x)):=fun x => by
    rw [List.length_append,List.length_cons,onN_add]
    rfl
   rw [hL] at hp hnc ⊢
   rw [allR_step,hs]
   unfold tailR
   dsimp only
   have hyc:isB (onN (tkA t).length c) 3 wCom = true:=isB_yes' hbad hn2 hn3
   rw [if_pos hyc,allR_acts (ts:=u :: r) (by simp) (fun v hv => h v (by simp only [List.mem_cons] at hv ⊢; exact .inr hv)) (by rw [List.length_append]; simp only [List.length_cons,List.length_nil] at h8 ⊢; omega) (by rw [(on_bad _).1]; exact hbad) hn4 hp hnc]
   simp
end ActSpec
end Go.Proofs.YtcofikjpplkjdaaGreatDoor