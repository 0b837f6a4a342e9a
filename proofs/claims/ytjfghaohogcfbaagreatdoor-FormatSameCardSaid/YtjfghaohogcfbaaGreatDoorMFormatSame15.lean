/- ScanToks, ExprParse, ExprScan, ActScan, TransScan, PrintSpec, FormMay, joined. -/
import Derived.Test.YtjfghaohogcfbaaGreatDoorMFormatSame14
import Derived.Test.YtjfghaohogcfbaaGreatDoorMFormatSame11
import Derived.Test.YtjfghaohogcfbaaGreatDoorMFormatSame07
import Derived.Test.YtjfghaohogcfbaaGreatDoorMFormatSame09
import Derived.Test.YtjfghaohogcfbaaGreatDoorMFormatSame10
namespace Go.Proofs.YtjfghaohogcfbaaGreatDoor
open Go.RowKit ScanSpec
set_option maxRecDepth 100000
theorem one_kind {d:List UInt8} {kd:Int} {ln:Nat} (h:ScanSpec.one d = (kd,ln,0)):kd ≠ 0:=by
 intro hk
 subst hk
 unfold ScanSpec.one at h
 split at h
 ·split at h <;> simp at h
 ·split at h
  ·split at h
   ·simp at h
   ·split at h <;> simp at h
  ·split at h <;> simp at h
theorem one_zero {d:List UInt8} {kd er:Int} {ln:Nat} (h:ScanSpec.one d = (kd,ln,er)) (hne:er ≠ 0):kd = 0 ∧ ln = 0:=by
 unfold ScanSpec.one at h
 split at h
 ·split at h
  ·cases h; exact ⟨rfl,rfl⟩
  ·cases h; exact absurd rfl hne
 ·split at h
  ·split at h
   ·cases h; exact ⟨rfl,rfl⟩
   ·split at h
    ·cases h; exact ⟨rfl,rfl⟩
    ·cases h; exact absurd rfl hne
  ·split at h
   ·cases h; exact ⟨rfl,rfl⟩
   ·cases h; exact absurd rfl hne
set_option maxHeartbeats 2000000 in
theorem stoks_long (s:ByteArray) (w:World) (h:65536 < s.size):Calls Tryz.prog 18 #[.string s] w (TokPost w s):=by
 have HT:Hid (scanT s.data.toList = ([],0,5)):=Lib.hid (if_pos h)
 have hI:65536 < (s.size:Int):=by omega
 go_enter Tryz.func18,Tryz.ntmps18
 go_wp2_with fail
 go_region
 all_goals
  go_wp2_with fail
  refine bodyPost_ret (v:=.tuple #[.slice none 0 0,.agg #[.int .i64 1,.int .i64 1],.int .i64 5]) (by simp [results,Tryz.results18,go_sem]) rfl ?_
  exact ⟨(((Below.refl _ _).alloc (Nat.le_refl _) _).alloc (by simp) _).drew,fun _ => by rw [HT.out]; rfl,fun h => by rw [HT.out] at h; exact absurd h (by decide)⟩
structure TokLoop (W:World) (s:ByteArray) (k:Nat) (v:Value) (n j:Nat) (acc:List Tok) (wr:World):Prop where
 hk:k = s.size - j
 hj:j ≤ s.size
 hn:acc.length = n
 own:wr.ownsRow (W.heap.size + 3) 84 4 v n (toksV s acc)
 go:∃ f,scanGo s.data.toList f (gap s.data.toList j) acc = scan s.data.toList ∧ s.size ≤ gap s.data.toList j + f
 few:n ≤ 4000
 res:wr.heap[W.heap.size]? = some (.cells #[.int .i64 0,.int .i64 0] 24 (0,0))
 rdr:StandsAt wr (W.heap.size + 2) s j
 below:Below W.heap.size W wr
 top:W.heap.size + 3 ≤ wr.heap.size
def TokLoopR (W:World) (s:ByteArray) (k:Nat) (v:Value) (wr:World):Prop:=∃ n j acc,TokLoop W s k v n j acc wr
theorem toks_start {w:World} {s:ByteArray}:TokLoopR w s s.size (.slice none 0 0)
 (((w.alloc (.cells #[.int .i64 0,.int .i64 0] 24)).alloc (.cells #[.int .i64 1,.int .i64 1] 24)).alloc (.cells #[.string s,.int .i64 1,.int .i64 1] 86)):=by
 have e1:=World.size_alloc w (.cells #[.int .i64 0,.int .i64 0] 24)
 have e2:=World.size_alloc (w.alloc (.cells #[.int .i64 0,.int .i64 0] 24)) (.cells #[.int .i64 1,.int .i64 1] 24)
 have hg:=(gap_bd (l:=s.data.toList) (i:=0) (Nat.zero_le _)).1
 refine ⟨0,0,[],by omega,Nat.zero_le _,rfl,⟨rfl,.inl ⟨rfl,rfl⟩⟩,⟨s.size,rfl,by omega⟩,by omega,?_,?_,?_,by simp⟩
 ·exact (heap_alloc_old _ _ (by simp; omega)).trans ((heap_alloc_old _ _ (by simp)).trans (heap_alloc_new _ _))
 ·unfold StandsAt RdrAt
  have:=heap_alloc_new ((w.alloc (.cells #[.int .i64 0,.int .i64 0] 24)).alloc (.cells #[.int .i64 1,.int .i64 1] 24)) (.cells #[.string s,.int .i64 1,.int .i64 1] 86)
  rw [e2,e1] at this
  rw [extract_all]
  exact this
 ·exact (((Below.refl _ _).alloc (Nat.le_refl _) _).alloc (by simp) _).alloc (by simp; omega) _
structure TokMid (W:World) (s:ByteArray) (tb x:Nat) (kd p1 p2:Int) (tx:ByteArray) (w4:World):Prop where
 tok:w4.heap[tb]? = some (.cells #[.int .i64 kd,.string tx,.int .i64 p1,.int .i64 p2] 84 (0,0))
 res:w4.heap[W.heap.size]? = some (.cells #[.int .i64 0,.int .i64 0] 24 (0,0))
 rdr:StandsAt w4 (W.heap.size + 2) s x
 below:Below W.heap.size W w4
 top:W.heap.size + 3 ≤ w4.heap.size
abbrev tokO (kd:Int) (tx:ByteArray) (p1 p2:Int):Obj:=.cells #[.int .i64 kd,.string tx,.int .i64 p1,.int .i64 p2] 84
theorem toks_mid {W wr w2 w4:World} {s tx:ByteArray} {k n j x:Nat} {v:Value} {acc:List Tok} {kd p1 p2:Int} (hL:TokLoop W s k v n j acc wr) (hb:wr.grownBy w2 (some (W.heap.size + 2))) (hR:StandsAt w2 (W.heap.size + 2) s x)
 (hg:((w2.alloc (tokO kd tx p1 p2)).alloc (tokO kd tx p1 p2)).grownBy w4 v.ownBlock):TokMid W s w2.heap.size x kd p1 p2 tx w4:=by
 have hv:=own_block_bd (own_but hL.own hb (by omega))
 have ht:=hL.top
 have h2:=hb.size
 have h4:=hg.size
 simp only [World.size_alloc] at h4
 have old:∀ i,i < w2.heap.size → (i < W.heap.size + 3) → w4.heap[i]? = w2.heap[i]?:=fun i hi hj =>
  (hg.block i (by simp; omega) (fun e => by have:=(hv i e.symm).1; omega)).trans ((heap_alloc_old _ _ (by simp; omega)).trans (heap_alloc_old _ _ hi))
 refine ⟨?_,?_,?_,?_,by omega⟩
 ·exact (hg.block w2.heap.size (by simp; omega) (fun e => by have:=(hv _ e.symm).2; omega)).trans ((heap_alloc_old _ _ (by simp)).trans (heap_alloc_new _ _))
 ·exact (old _ (by omega) (by omega)).trans ((hb.block _ (by omega) (by simp)).trans hL.res)
 ·exact (old _ (by omega) (by omega)).trans hR
 ·refine hL.below.trans ⟨?_,?_,?_,by omega,fun i hi => (old i (by omega) (by omega)).trans (hb.block i (by omega) (by simp; omega))⟩
  ·exact hg.os.trans hb.os
  ·exact hg.tape.trans hb.tape
  ·exact hg.output.trans hb.output
theorem toks_done {W w4:World} {s:ByteArray} {tb x g n cap k j:Nat} {acc:List Tok} {v u0 u1:Value} {wr:World} {p1 p2:Int} {tx:ByteArray} (hm:s.size ≤ 65536) (hL:TokLoop W s k v n j acc wr) (hG:g = gap s.data.toList j) (hP:pos s.data.toList g = (p1,p2)) (hge:g = s.size) (hM:TokMid W s tb x 0 p1 p2 tx w4) {gg:Nat}
 (hown:w4.ownsRow (W.heap.size + 3) 84 4 (.slice (some ⟨gg,0,none⟩) (n + 1) cap) (n + 1) (toksV s acc ++ [.int .i64 0,.string ⟨#[]⟩,.int .i64 p1,.int .i64 p2])) :
 TokPost W s (.returned (.tuple #[.slice (some ⟨gg,0,none⟩) (n + 1) cap,.agg #[.int .i64 0,.int .i64 0],.int .i64 0])) ((w4.setCell ⟨W.heap.size,0,none⟩ u0).setCell ⟨W.heap.size,1,none⟩ u1):=by
 obtain ⟨f,hgo,hf⟩:=hL.go
 rw [← hG] at hgo
 refine tok_end (i:=g) (f:=f) ((show scanT s.data.toList = scan s.data.toList from if_neg (by rw [size_list']; omega))) hL.hn hgo (by omega) ?_ hM.below
 have e:endC s g = [.int .i64 0,.string ⟨#[]⟩,.int .i64 p1,.int .i64 p2]:=by
  unfold endC
  rw [hP]; rfl
 rw [e]
 exact own_weak hown (by omega)
theorem toks_next {W w4 wr:World} {s:ByteArray} {tb g n ln cap gg k j:Nat} {acc:List Tok} {v:Value} {kd p1 p2:Int} (hL:TokLoop W s k v n j acc wr) (hG:g = gap s.data.toList j) (hP:pos s.data.toList g = (p1,p2)) (hlt:g < s.size) (hO:ScanSpec.one (s.data.toList.drop g) = (kd,ln,0)) (hfull:¬ n = 4000)
 (hln:1 ≤ ln) (hle:g + ln ≤ s.size) (hM:TokMid W s tb (g + ln) kd p1 p2 (s.extract g (g + ln)) w4)
 (hown:w4.ownsRow (W.heap.size + 3) 84 4 (.slice (some ⟨gg,0,none⟩) (n + 1) cap) (n + 1) (toksV s acc ++ [.int .i64 kd,.string (s.extract g (g + ln)),.int .i64 p1,.int .i64 p2])) :
 TokLoopR W s (s.size - (g + ln)) (.slice (some ⟨gg,0,none⟩) (n + 1) cap) w4 ∧ s.size - (g + ln) < k:=by
 obtain ⟨f,hgo,hf⟩:=hL.go
 rw [← hG] at hgo hf
 obtain ⟨f,rfl⟩:∃ f',f = f' + 1:=⟨f - 1,by omega⟩
 have hk:=hL.hk
 have hn:=hL.hn
 have hfew:=hL.few
 have hjg:=(gap_bd (l:=s.data.toList) (i:=j) hL.hj).1
 rw [← hG] at hjg
 have hgb:=(gap_bd (l:=s.data.toList) (i:=g + ln) hle).1
 refine ⟨⟨n + 1,g + ln,acc ++ [⟨kd,g,ln⟩],rfl,hle,by simp [hn],?_,⟨f,?_,by omega⟩,by omega,hM.res,hM.rdr,hM.below,hM.top⟩,by omega⟩
 ·rw [← toksV_snoc]
  have e:tokV s ⟨kd,g,ln⟩ = [.int .i64 kd,.string (s.extract g (g + ln)),.int .i64 p1,.int .i64 p2]:=by
   unfold tokV
   rw [hP]
  rw [e]
  exact hown
 ·rw [← hgo,scanGo_next (by rw [size_list']; exact hlt) (by rw [hO]) (by rw [hn]; exact hfull),hO]
theorem toks_fault {W wr:World} {s:ByteArray} {g n ln k j:Nat} {acc:List Tok} {v:Value} {kd er:Int} (hm:s.size ≤ 65536) (hL:TokLoop W s k v n j acc wr) (hG:g = gap s.data.toList j) (hlt:g < s.size) (hO:ScanSpec.one (s.data.toList.drop g) = (kd,ln,er)) (hne:er ≠ 0):scanT s.data.toList = ([],g,er):=by
 obtain ⟨f,hgo,hf⟩:=hL.go
 rw [← hG] at hgo hf
 obtain ⟨f,rfl⟩:∃ f',f = f' + 1:=⟨f - 1,by omega⟩
 rw [show scanT s.data.toList = scan s.data.toList from if_neg (by rw [size_list']; omega),← hgo,scanGo_err (by rw [size_list']; exact hlt) (by rw [hO]; exact hne),hO]
theorem toks_full {W wr:World} {s:ByteArray} {g n ln k j:Nat} {acc:List Tok} {v:Value} {kd:Int} (hm:s.size ≤ 65536) (hL:TokLoop W s k v n j acc wr) (hG:g = gap s.data.toList j) (hlt:g < s.size) (hO:ScanSpec.one (s.data.toList.drop g) = (kd,ln,0)) (hfull:n = 4000):scanT s.data.toList = ([],g,8):=by
 obtain ⟨f,hgo,hf⟩:=hL.go
 rw [← hG] at hgo hf
 obtain ⟨f,rfl⟩:∃ f',f = f' + 1:=⟨f - 1,by omega⟩
 rw [show scanT s.data.toList = scan s.data.toList from if_neg (by rw [size_list']; omega),← hgo,scanGo_full (by rw [size_list']; exact hlt) (by rw [hO]) (by rw [hL.hn]; exact hfull)]
theorem toks_ret {W wr w2:World} {s:ByteArray} {k n j g:Nat} {v u0 u1:Value} {acc:List Tok} {o:Obj} {p1 p2 er:Int} (hL:TokLoop W s k v n j acc wr) (hb:wr.grownBy w2 (some (W.heap.size + 2))) (hP:pos s.data.toList g = (p1,p2)) (hT:scanT s.data.toList = ([],g,er)) (hne:er ≠ 0) :
 TokPost W s (.returned (.tuple #[.slice none 0 0,.agg #[.int .i64 p1,.int .i64 p2],.int .i64 er])) (((w2.alloc o).setCell ⟨W.heap.size,0,none⟩ u0).setCell ⟨W.heap.size,1,none⟩ u1).drew:=by
 have ht:=hL.top
 have h2:=hb.size
 have hB:Below W.heap.size W w2:=hL.below.trans ⟨hb.os,hb.tape,hb.output,h2,fun i hi => hb.block i (by omega) (by simp; omega)⟩
 have:=tok_bad (s:=s) (i:=g) (er:=er) ((((hB.alloc (by omega) o).setCell (p:=⟨W.heap.size,0,none⟩) (Nat.le_refl _) u0).setCell (p:=⟨W.heap.size,1,none⟩) (Nat.le_refl _) u1).drew) hT hne
 rwa [hP] at this
theorem toks_res {W wr w2:World} {s:ByteArray} {k n j:Nat} {v:Value} {acc:List Tok} (o:Obj) (hL:TokLoop W s k v n j acc wr) (hb:wr.grownBy w2 (some (W.heap.size + 2))) :
 (w2.alloc o).heap[W.heap.size]? = some (.cells #[.int .i64 0,.int .i64 0] 24 (0,0)):=by
 have ht:=hL.top
 have h2:=hb.size
 exact (heap_alloc_old _ _ (by omega)).trans ((hb.block _ (by omega) (by simp)).trans hL.res)
theorem toks_good {s tx:ByteArray} {j g B ln:Nat} {kd p1 p2:Int} {wr:World} (hpw:PairsIn wr) (hB:0 ≠ B) (hg:g = gap s.data.toList j) (hp:pos s.data.toList g = (p1,p2)) (he:g < s.size) (hO:ScanSpec.one (s.data.toList.drop g) = (kd,ln,0)) (hle:g + ln ≤ s.size) (htx:tx = s.extract g (g + ln)) (hj:j ≤ s.size) (hs:s.size ≤ 9223372036854775800) (h:StandsAt wr B s j) :
 Calls Tryz.prog 46 #[.pointer (some ⟨B,0,none⟩)] wr fun e w' => e = .returned (.tuple #[.agg #[.int .i64 kd,.string tx,.int .i64 p1,.int .i64 p2],.int .i64 0]) ∧ StandsAt w' B s (g + ln) ∧ wr.grownBy w' (some B):=by
 subst htx
 have hsz:=extract_size' s g
 refine (next_good B j s wr hj hs h kd ln (by omega) (fun k hk => by rw [← hg]; exact one_noline hO k hk) (fun w' hb => ?_)).mono ?_
 ·rw [← hg]
  refine (first_any (s.extract g s.size) w' (hpw.but hb hB) (by omega) (by omega)).mono ?_
  rintro e w2 ⟨kd',er',ln',hO',he',hw'⟩
  rw [extract_drop,hO] at hO'
  cases hO'
  exact ⟨he',hw'⟩
 ·rintro e w' ⟨h1,h2,h3⟩
  rw [← hg] at h1 h2
  refine ⟨?_,h2,h3⟩
  rw [h1,tokA,hp]
theorem toks_wrong {s:ByteArray} {j g B ln:Nat} {kd p1 p2 er:Int} {wr:World} (hpw:PairsIn wr) (hB:0 ≠ B) (hg:g = gap s.data.toList j) (hp:pos s.data.toList g = (p1,p2)) (he:g < s.size) (hO:ScanSpec.one (s.data.toList.drop g) = (kd,ln,er)) (hne:er ≠ 0) (hj:j ≤ s.size) (hs:s.size ≤ 9223372036854775800) (h:StandsAt wr B s j) :
 Calls Tryz.prog 46 #[.pointer (some ⟨B,0,none⟩)] wr fun e w' => e = .returned (.tuple #[.agg #[.int .i64 0,.string ⟨#[]⟩,.int .i64 p1,.int .i64 p2],.int .i64 er]) ∧ wr.grownBy w' (some B):=by
 have hsz:=extract_size' s g
 obtain ⟨rfl,rfl⟩:=one_zero hO hne
 refine (next_bad B j s wr hj hs h er hne (fun w' hb => ?_)).mono ?_
 ·rw [← hg]
  refine (first_any (s.extract g s.size) w' (hpw.but hb hB) (by omega) (by omega)).mono ?_
  rintro e w2 ⟨kd',er',ln',hO',he',hw'⟩
  rw [extract_drop,hO] at hO'
  cases hO'
  exact ⟨he',hw'⟩
 ·rintro e w' ⟨h1,h3⟩
  rw [← hg] at h1
  refine ⟨?_,h3⟩
  rw [h1,hp]
theorem toks_end {s:ByteArray} {j g B:Nat} {p1 p2:Int} {wr:World} (hg:g = gap s.data.toList j) (hp:pos s.data.toList g = (p1,p2)) (he:g = s.size) (hj:j ≤ s.size) (hs:s.size ≤ 9223372036854775800) (h:StandsAt wr B s j) :
 Calls Tryz.prog 46 #[.pointer (some ⟨B,0,none⟩)] wr fun e w' => e = .returned (.tuple #[.agg #[.int .i64 0,.string ⟨#[]⟩,.int .i64 p1,.int .i64 p2],.int .i64 0]) ∧ StandsAt w' B s g ∧ wr.grownBy w' (some B):=by
 have hx:s.extract g s.size = ⟨#[]⟩:=by
  apply ByteArray.ext
  apply Array.toList_inj.mp
  rw [extract_drop,List.drop_eq_nil_of_le (by rw [size_list']; omega)]
 refine (next_good B j s wr hj hs h 0 0 (by omega) (fun k hk => absurd hk (by omega)) (fun w' _ => ?_)).mono ?_
 ·rw [← hg,hx]
  exact first_end w'
 ·rintro e w' ⟨h1,h2,h3⟩
  rw [← hg] at h1 h2
  refine ⟨?_,h2,h3⟩
  rw [h1,tokA,hp,show s.extract g (g + 0) = ⟨#[]⟩ by
   apply ByteArray.ext
   simp]
set_option maxHeartbeats 4000000 in
theorem stoks_short (s:ByteArray) (w:World) (hp:PairsIn w) (h:s.size ≤ 65536):Calls Tryz.prog 18 #[.string s] w (TokPost w s):=by
 have hI:(s.size:Int) ≤ 65536:=by omega
 have HP:=Lib.hid hp
 clear hp
 obtain ⟨i0,hi,hz0,hz1,hz2⟩:=info_parts info_tok
 go_enter Tryz.func18,Tryz.ntmps18
 go_wp2_with fail
 go_loopg [6] s.size (fun k v wr => TokLoopR w s k v wr)
 case atStart => exact toks_start
 case round =>
  obtain ⟨n,j,acc,hL⟩:=hrel
  obtain ⟨A,c,rfl⟩:=own_shape hL.own
  have hj:=hL.hj
  have hg:=gap_bd (l:=s.data.toList) (i:=j) hj
  rw [size_list'] at hg
  obtain ⟨g,hgE⟩:∃ g,g = gap s.data.toList j:=⟨_,rfl⟩
  obtain ⟨p1,p2,hpE⟩:∃ p1 p2,pos s.data.toList g = (p1,p2):=⟨_,_,rfl⟩
  have HG:=Lib.hid hgE
  have HPos:=Lib.hid hpE
  have HL:=Lib.hid hL
  have HPw:Hid (PairsIn wr):=Lib.hid (HP.out.keep hL.below)
  rw [← hgE] at hg
  obtain ⟨hg1,hg2⟩:=hg
  clear hL hgE hpE
  by_cases hge:g = s.size
  ·have HN:Hid (Calls Tryz.prog 46 #[.pointer (some ⟨w.heap.size + 2,0,none⟩)] wr fun e w' => e = .returned (.tuple #[.agg #[.int .i64 0,.string ⟨#[]⟩,.int .i64 p1,.int .i64 p2],.int .i64 0]) ∧ StandsAt w' (w.heap.size + 2) s g ∧ wr.grownBy w' (some (w.heap.size + 2))):=Lib.hid (toks_end HG.out HPos.out hge hj (by omega) HL.out.rdr)
   have HGe:=Lib.hid hge
   clear hge
   go_wp2_with fail
   refine (HN.out).mono ?_
   rintro e w2 ⟨rfl,hR2,hb2⟩
   have hown2:=own_but HL.out.own hb2 (by omega)
   have hsz2:=hb2.size
   have htop:=HL.out.top
   have hfew:=HL.out.few
   have HR2:=Lib.hid hR2
   have HB2:=Lib.hid hb2
   have hown3:=(hown2.alloc (.cells #[.int .i64 0,.string ⟨#[]⟩,.int .i64 p1,.int .i64 p2] 84)).alloc (.cells #[.int .i64 0,.string ⟨#[]⟩,.int .i64 p1,.int .i64 p2] 84)
   have hnew:=heap_alloc_new (w2.alloc (.cells #[.int .i64 0,.string ⟨#[]⟩,.int .i64 p1,.int .i64 p2] 84)) (.cells #[.int .i64 0,.string ⟨#[]⟩,.int .i64 p1,.int .i64 p2] 84)
   rw [World.size_alloc] at hnew
   have HOwn:=Lib.hid hown3
   have HNew:=Lib.hid hnew
   clear hR2 hb2 hown2 hown3 hnew
   go_wp2_with (at_builtin; refine wpList_append_lies _ rfl (.tmp 39) (.tmp 41) _ rfl (w.heap.size + 3) 84 i0 _ 4 40 Tryz.underlying41 hi hz0 hz1 hz2 rfl (by decide) _ n (toksV s acc) rfl HOwn.out ⟨w2.heap.size + 1,0,none⟩ 1 1 [.int .i64 0,.string ⟨#[]⟩,.int .i64 p1,.int .i64 p2] rfl rfl (World.news_of_block (cs:=#[.int .i64 0,.string ⟨#[]⟩,.int .i64 p1,.int .i64 p2]) (t:=84) (fr:=(0,0)) HNew.out) (by simp [Value.oneCell']) (by decide) ?_ ?_ ?_ (w2.heap.size + 2) ?_ ?_; (unfold maxLen; omega); omega; (simp; omega); (simp); intro gg cap4 w4 hown4 hgrow4 hat4 hlt4; have HM:=Lib.hid (toks_mid HL.out HB2.out HR2.out hgrow4); have k0:=cell_of_block' HM.out.tok (i:=0) rfl; have r0:=cell_of_block' HM.out.res (i:=0) rfl; have r1:=cell_of_block' HM.out.res (i:=1) rfl; have f0:=free_of_block' HM.out.res 0; have f1:=free_of_block' HM.out.res 1; have HOwn4:=Lib.hid hown4; have htop4:=HM.out.top; clear hgrow4 hown4)
   have q0:=fun u => (store_pair HM.out.res u u).1
   have q1:=fun u v => (store_pair HM.out.res u v).2
   refine bodyPost_ret (v:=.tuple #[.slice (some ⟨gg,0,none⟩) (n + 1) cap4,.agg #[.int .i64 0,.int .i64 0],.int .i64 0]) (by simp [results,Tryz.results18,go_sem,q0,q1]) rfl ?_
   exact toks_done h HL.out HG.out HPos.out HGe.out HM.out HOwn4.out
  ·have hlt:g < s.size:=by omega
   obtain ⟨kd,ln,er,hO⟩:∃ kd ln er,ScanSpec.one (s.data.toList.drop g) = (kd,ln,er):=⟨_,_,_,rfl⟩
   have htop:=HL.out.top
   have hfew:=HL.out.few
   have HO:=Lib.hid hO
   by_cases her:er = 0
   ·subst her
    have hb1:=(one_bd (s.data.toList.drop g) (by rw [List.length_drop,size_list']; omega)).1
    rw [hO] at hb1
    obtain ⟨hln,hle⟩:=hb1 rfl
    rw [List.length_drop,size_list'] at hle
    have hle':g + ln ≤ s.size:=by simp only at hle; omega
    have hln':1 ≤ ln:=hln
    have hkd:=one_kind hO
    have hkd0:(kd == 0) = false:=by simpa using hkd
    have hkd1:(kd != 0) = true:=by simpa using hkd
    obtain ⟨tx,htx⟩:∃ tx,tx = s.extract g (g + ln):=⟨_,rfl⟩
    have HN:=Lib.hid (toks_good HPw.out (by omega) HG.out HPos.out hlt hO hle' htx hj (by omega) HL.out.rdr)
    have HTx:=Lib.hid htx
    clear hO hb1 hln hle hkd hge htx
    by_cases hfull:n = 4000
    ·have e4:((n:Int) == 4000) = true:=by simp; omega
     have HT:=Lib.hid (toks_full h HL.out HG.out hlt HO.out hfull)
     clear hfull
     go_wp2_with fail
     refine (HN.out).mono ?_
     rintro e w2 ⟨rfl,hR2,hb2⟩
     have hres:=toks_res (tokO kd tx p1 p2) HL.out hb2
     have hsz2:=hb2.size
     have r0:=cell_of_block' hres (i:=0) rfl
     have r1:=cell_of_block' hres (i:=1) rfl
     have f0:=free_of_block' hres 0
     have f1:=free_of_block' hres 1
     have HRes:=Lib.hid hres
     have HB2:=Lib.hid hb2
     clear hR2 hres hb2
     go_wp2_with fail
     go_region
     all_goals
      go_wp2_with fail
      have q0:=fun u => (store_pair HRes.out u u).1
      have q1:=fun u v => (store_pair HRes.out u v).2
      refine bodyPost_ret (v:=.tuple #[.slice none 0 0,.agg #[.int .i64 p1,.int .i64 p2],.int .i64 8]) (by simp [results,Tryz.results18,go_sem,q0,q1]) rfl ?_
      exact toks_ret HL.out HB2.out HPos.out HT.out (by decide)
    ·have e4:((n:Int) == 4000) = false:=by simp; omega
     have HFu:=Lib.hid hfull
     clear hfull
     go_wp2_with fail
     refine (HN.out).mono ?_
     rintro e w2 ⟨rfl,hR2,hb2⟩
     have hown2:=own_but HL.out.own hb2 (by omega)
     have hsz2:=hb2.size
     have HR2:=Lib.hid hR2
     have HB2:=Lib.hid hb2
     have hown3:=(hown2.alloc (tokO kd tx p1 p2)).alloc (tokO kd tx p1 p2)
     have hnew:=heap_alloc_new (w2.alloc (tokO kd tx p1 p2)) (tokO kd tx p1 p2)
     rw [World.size_alloc] at hnew
     have HOwn:=Lib.hid hown3
     have HNew:=Lib.hid hnew
     clear hR2 hb2 hown2 hown3 hnew
     go_wp2_with (at_builtin; refine wpList_append_lies _ rfl (.tmp 39) (.tmp 41) _ rfl (w.heap.size + 3) 84 i0 _ 4 40 Tryz.underlying41 hi hz0 hz1 hz2 rfl (by decide) _ n (toksV s acc) rfl HOwn.out ⟨w2.heap.size + 1,0,none⟩ 1 1 [.int .i64 kd,.string tx,.int .i64 p1,.int .i64 p2] rfl rfl (World.news_of_block (cs:=#[.int .i64 kd,.string tx,.int .i64 p1,.int .i64 p2]) (t:=84) (fr:=(0,0)) HNew.out) (by simp [Value.oneCell']) (by decide) ?_ ?_ ?_ (w2.heap.size + 2) ?_ ?_; (unfold maxLen; omega); omega; (simp; omega); (simp); intro gg cap4 w4 hown4 hgrow4 hat4 hlt4; have HM:=Lib.hid (toks_mid HL.out HB2.out HR2.out hgrow4); have k0:=cell_of_block' HM.out.tok (i:=0) rfl; have r0:=cell_of_block' HM.out.res (i:=0) rfl; have r1:=cell_of_block' HM.out.res (i:=1) rfl; have f0:=free_of_block' HM.out.res 0; have f1:=free_of_block' HM.out.res 1; have HOwn4:=Lib.hid hown4; have htop4:=HM.out.top; clear hgrow4 hown4)
     have HEnd:=Lib.hid (toks_next HL.out HG.out HPos.out hlt HO.out HFu.out hln' hle' (by have:=HM.out; rwa [HTx.out] at this) (by have:=HOwn4.out; rwa [HTx.out] at this))
     go_roundg (s.size - (g + ln))
     case rel => exact HEnd.out.1
     case measure => exact HEnd.out.2
   ·have HN:=Lib.hid (toks_wrong HPw.out (by omega) HG.out HPos.out hlt hO her hj (by omega) HL.out.rdr)
    have HT:=Lib.hid (toks_fault h HL.out HG.out hlt HO.out her)
    have e0:(er == 0) = false:=by simpa using her
    have e1:(er != 0) = true:=by simpa using her
    clear hO hge
    have HEr:=Lib.hid her
    clear her
    go_wp2_with fail
    refine (HN.out).mono ?_
    rintro e w2 ⟨rfl,hb2⟩
    have hres:=toks_res (tokO 0 ⟨#[]⟩ p1 p2) HL.out hb2
    have hsz2:=hb2.size
    have r0:=cell_of_block' hres (i:=0) rfl
    have r1:=cell_of_block' hres (i:=1) rfl
    have f0:=free_of_block' hres 0
    have f1:=free_of_block' hres 1
    have HRes:=Lib.hid hres
    have HB2:=Lib.hid hb2
    clear hres hb2
    go_wp2_with fail
    go_region
    all_goals
     go_wp2_with fail
     have q0:=fun u => (store_pair HRes.out u u).1
     have q1:=fun u v => (store_pair HRes.out u v).2
     refine bodyPost_ret (v:=.tuple #[.slice none 0 0,.agg #[.int .i64 p1,.int .i64 p2],.int .i64 er]) (by simp [results,Tryz.results18,go_sem,q0,q1]) rfl ?_
     exact toks_ret HL.out HB2.out HPos.out HT.out HEr.out
theorem stoks_any (s:ByteArray) (w:World) (hp:PairsIn w):Calls Tryz.prog 18 #[.string s] w (TokPost w s):=by
 by_cases h:65536 < s.size
 ·exact stoks_long s w h
 ·exact stoks_short s w hp (by omega)
end Go.Proofs.YtjfghaohogcfbaaGreatDoor
namespace Go.Proofs.YtjfghaohogcfbaaGreatDoor
open Go.RowKit CurSpec TermSpec ExprSpec NamesSpec ScanSpec
def tokOf (s:ByteArray) (t:Tok):Tk:=⟨t.kind,s.extract t.at_ (t.at_ + t.len),(pos s.data.toList t.at_).1,(pos s.data.toList t.at_).2⟩
theorem toks_map (s:ByteArray) (l:List Tok):toksV s l = tksV (l.map (tokOf s)):=by
 unfold toksV tksV
 rw [List.flatMap_map]
 rfl
def tkAll (s:ByteArray):List Tk:=(scanT s.data.toList).1.map (tokOf s)
def cur0 (L:List Tk):Cur:=⟨L,0,0,0,0,0⟩
theorem scanGo_len (l:List UInt8):∀ (f i:Nat) (acc:List Tok),acc.length ≤ 4000 → (scanGo l f i acc).1.length ≤ 4001
 | 0,i,acc,h => by simp [scanGo]; omega
 | f + 1,i,acc,h => by
   unfold scanGo
   split
   ·simp; omega
   ·dsimp only
    split
    ·simp
    split
    ·simp
    ·exact scanGo_len l f _ _ (by simp; omega)
theorem scanT_len (l:List UInt8):(scanT l).1.length ≤ 4001:=by
 unfold scanT
 split
 ·simp
 ·exact scanGo_len l _ _ _ (by simp)
theorem tkAll_ok (s:ByteArray) (h:s.size ≤ 9223372036854775807):Ok (cur0 (tkAll s)):=by
 intro t ht
 obtain ⟨x,_,rfl⟩:=List.mem_map.1 ht
 show (s.extract _ _).size ≤ _
 rw [ByteArray.size_extract]
 omega
theorem Tms.but {w w':World} {A:Option Addr} {n cp B:Nat} {l:List Tm} (h:Tms w (.slice A n cp) l) (hb:w.grownBy w' (some B)) (hne:(Value.slice A n cp).ownBlock ≠ some B):Tms w' (.slice A n cp) l:=by
 obtain ⟨m,hm,A',c',heq,hc,hl,hA⟩:=h
 cases heq
 refine ⟨n,hm,A,cp,rfl,hc,hl,fun h0 => ?_⟩
 obtain ⟨b,off,rfl,hlt,hcell⟩:=hA h0
 refine ⟨b,off,rfl,Nat.lt_of_lt_of_le hlt hb.size,fun j u hj => ?_⟩
 rw [← hcell j u hj]
 have:=hb.block b hlt (fun e => hne (by rw [← e]; rfl))
 simp [World.cell?,this]
end Go.Proofs.YtjfghaohogcfbaaGreatDoor
namespace Go.Proofs.YtjfghaohogcfbaaGreatDoor
namespace ExprSpec
open CurSpec TermSpec ScanSpec
def Stop (r:List UInt8):Prop:=∀ c,r.head? = some c → isWord c = false ∧ isNum c = false ∧ clsB c ≠ 1 ∧ clsB c ≠ 3
theorem run_all {p:UInt8 → Bool}:∀ {s r:List UInt8},s.all p = true → (∀ c,r.head? = some c → p c = false) → run p (s ++ r) = s.length
 | [],[],_,_ => rfl
 | [],c :: r,_,h => by rw [List.nil_append,run,if_neg (by rw [h c rfl]; decide)]; rfl
 | a :: s,r,h,hr => by
   rw [List.all_cons,Bool.and_eq_true] at h
   rw [List.cons_append,run,if_pos h.1,run_all h.2 hr]
   rfl
theorem cls_past (s r:List UInt8) (hs:Stop r):cls (s ++ r) s.length ≠ 1 ∧ cls (s ++ r) s.length ≠ 3:=by
 unfold cls
 rw [List.getElem?_append_right (Nat.le_refl _),Nat.sub_self]
 cases r with
 | nil => simp
 | cons c r => exact (hs c rfl).2.2
theorem one_num {a:UInt8} {t r:List UInt8} (ha:clsB a = 2) (hw:(a :: t).all isNum = true) (hl:(a :: t).length ≤ 9) (hs:Stop r):ScanSpec.one (a :: t ++ r) = (2,(a :: t).length,0):=by
 have hr:=run_all hw (fun c hc => (hs c hc).2.1)
 have hc:=cls_past (a :: t) r hs
 have h2:cls (a :: t ++ r) 0 = 2:=ha
 unfold ScanSpec.one
 rw [if_neg (by omega),if_pos h2,hr,if_neg (by omega),if_neg (by omega)]
theorem one_mark {s r:List UInt8} (hc:cls (s ++ r) 0 = 0) (h0:0 < s.length) (hm:markLen (s ++ r) = s.length):ScanSpec.one (s ++ r) = (3,s.length,0):=by
 unfold ScanSpec.one
 rw [if_neg (by omega),if_neg (by omega),hm,if_neg (by omega)]
def Sc (l:List UInt8):Nat → List Tx → Nat → Prop
 | i,[],j => i = j
 | i,(k,s) :: r,j => i < l.length ∧ ScanSpec.one (l.drop i) = (k,s.length,0) ∧ (l.drop i).take s.length = s ∧ 0 < s.length ∧ Sc l (gap l (i + s.length)) r j
theorem bytes_app (a b:ByteArray):(a ++ b).data.toList = a.data.toList ++ b.data.toList:=by simp [ByteArray.data_append]
abbrev T (s:ByteArray):List UInt8:=s.data.toList
theorem tk_len:∀ {e:Ex},Good e → (tk e).length ≤ 6 * (flat e).length
 | .leaf t,h => by
   show _ ≤ 6
   unfold tk
   repeat' split
   all_goals simp
 | .un o a,h => by
   have ih:=tk_len h.2
   show _ ≤ 6 * ((flat a).length + 1)
   unfold tk twr
   repeat' split
   all_goals simp only [List.length_cons,List.length_append,List.length_nil]; omega
 | .bin o a b,h => by
   have iha:=tk_len h.2.1
   have ihb:=tk_len h.2.2
   show _ ≤ 6 * ((flat a ++ flat b).length + 1)
   rw [List.length_append]
   unfold tk twr
   repeat' split
   all_goals simp only [List.length_cons,List.length_append,List.length_nil]; omega
end ExprSpec
end Go.Proofs.YtjfghaohogcfbaaGreatDoor
namespace Go.Proofs.YtjfghaohogcfbaaGreatDoor
namespace ActSpec
open CurSpec TermSpec EvalSpec NamesSpec ExprSpec ScanSpec
def tkA (t:Ta):List Tx:=if t.any then [(1,[97,110,121]),(1,T t.s)] else (1,T t.s) :: (3,[58,61]) :: tk t.e
def tkL:List Ta → List Tx
 | [] => []
 | [t] => tkA t
 | t :: u :: r => tkA t ++ (3,[44]) :: tkL (u :: r)
theorem putT_cons (t u:Ta) (r:List Ta):putT (t :: u :: r) = T (txA t) ++ ([44] ++ ([32] ++ putT (u :: r))):=by
 unfold putT
 rw [List.map_cons,Lib.join_cons,List.map_cons,Lib.join_cons]
 simp [Lib.joinTail]
theorem putT_one (t:Ta):putT [t] = T (txA t):=by unfold putT; rw [List.map_cons,List.map_nil,Lib.join_one]
end ActSpec
end Go.Proofs.YtjfghaohogcfbaaGreatDoor
namespace Go.Proofs.YtjfghaohogcfbaaGreatDoor
namespace TransSpec
open CurSpec TermSpec EvalSpec NamesSpec ExprSpec ScanSpec ActSpec
def tkH (x:Tt):List Tx:=if x.ev.size = 0 then [(1,[97,117,116,111])] else [(1,[111,110]),(1,T x.ev)]
def tkG:Option Ex → List Tx
 | none => []
 | some e => (3,[91]) :: (tk e ++ [(3,[93])])
def tkC (ts:List Ta):List Tx:=if ts = [] then [] else (3,[47]) :: tkL ts
def tkD (s:ByteArray):List Tx:=if s.size = 0 then [] else [(3,[45,62]),(1,T s)]
def tkT (x:Tt):List Tx:=tkH x ++ (tkG x.g ++ (tkC x.ts ++ (tkD x.tg ++ [(3,[59])])))
def Pc (s:List UInt8) (ts:List Tx):Prop:=∀ (l:List UInt8) (i:Nat) (r:List UInt8),l.drop i = s ++ r → Stop r → Sc l (gap l i) ts (gap l (i + s.length))
theorem putB_T (ts:List Ta):T (putB ts) = putT ts:=by simp [putB,T]
theorem txT_T (x:Tt):T (txT x) = T (headB x) ++ (T (guardB x.g) ++ (T (actsB x.ts) ++ (T (tgB x.tg) ++ [59]))):=by
 unfold txT
 simp only [T,bytes_app,List.append_assoc]
def Behind (c:Cur) (ws:List ByteArray):Prop:=(next c).k = 3 ∧ (next c).t ∈ ws
end TransSpec
end Go.Proofs.YtjfghaohogcfbaaGreatDoor
namespace Go.Proofs.YtjfghaohogcfbaaGreatDoor
namespace PrintSpec
open CurSpec TermSpec EvalSpec NamesSpec ExprSpec ScanSpec ActSpec TransSpec SynSpec
open ShapeSpec (Sh up sf endOf)
def shOf (s:Sx):Sh:=⟨s.kind,s.par⟩
def smallV (n:Int):Bool:=decide (-1000 ≤ n) && decide (n ≤ 1000)
def okV (v:Vr):Bool:=isName v.s.data.toList && (smallV v.lo && (smallV v.hi && smallV v.ini))
def okS (s:Sx):Bool:=isName s.s.data.toList && (decide (chkA s.en = 0) && (decide (chkA s.ex = 0) && (decide (s.tr.length ≤ 16) && s.tr.all fun t => decide (chkT t = 0))))
def mayC (x:Cx):Bool :=
 isName x.s.data.toList && (decide (x.evs.length ≤ 8) && (decide (x.vars.length ≤ 4) && (decide (ShapeSpec.chk (x.sts.map shOf) = 0) && ((x.evs.all fun e => isName e.data.toList) && (x.vars.all okV && x.sts.all okS)))))
structure Ts where
 s:ByteArray
 kind:Int
 par:Int
 en:List Ta
 ex:List Ta
 tr:List Tt
def Ts.sx (t:Ts):Sx:=⟨t.s,t.kind,t.par,t.en.map Ta.ac,t.ex.map Ta.ac,t.tr.map Tt.tr⟩
structure Ts.Ok (t:Ts):Prop where
 nm:isName t.s.data.toList = true
 en:∀ a ∈ t.en,a.Ok
 enf:t.en.length ≤ 8
 ex:∀ a ∈ t.ex,a.Ok
 exf:t.ex.length ≤ 8
 tr:∀ a ∈ t.tr,a.Ok
 trf:t.tr.length ≤ 16
structure Tc where
 s:ByteArray
 evs:List ByteArray
 vars:List Vr
 sts:List Ts
def Tc.cx (c:Tc):Cx:=⟨c.s,c.evs,c.vars,c.sts.map Ts.sx⟩
def Tc.sh (c:Tc):List Sh:=c.sts.map fun t => ⟨t.kind,t.par⟩
structure Tc.Ok (c:Tc):Prop where
 nm:isName c.s.data.toList = true
 evf:c.evs.length ≤ 8
 vaf:c.vars.length ≤ 4
 sh:ShapeSpec.chk c.sh = 0
 evs:∀ e ∈ c.evs,isName e.data.toList = true
 vars:∀ v ∈ c.vars,okV v = true
 sts:∀ t ∈ c.sts,t.Ok
theorem sh_cx (c:Tc):c.cx.sts.map shOf = c.sh:=by
 unfold Tc.cx Tc.sh
 rw [List.map_map]
 rfl
theorem chkA_map {ts:List Ta} (h:∀ a ∈ ts,a.Ok) (h8:ts.length ≤ 8):chkA (ts.map Ta.ac) = 0:=by
 unfold chkA
 rw [if_neg (by rw [List.length_map]; omega)]
 exact tas_first h
theorem okS_of {t:Ts} (h:t.Ok):okS t.sx = true:=by
 have e1:chkA t.sx.en = 0:=chkA_map h.en h.enf
 have e2:chkA t.sx.ex = 0:=chkA_map h.ex h.exf
 have e3:t.sx.tr.length ≤ 16:=by show (t.tr.map Tt.tr).length ≤ 16; rw [List.length_map]; exact h.trf
 have e4:(t.sx.tr.all fun t => decide (chkT t = 0)) = true:=by
  rw [List.all_eq_true]
  intro x hx
  obtain ⟨a,ha,rfl⟩:=List.mem_map.1 (show x ∈ t.tr.map Tt.tr from hx)
  simpa using tt_chk (h.tr a ha)
 have e5:isName t.sx.s.data.toList = true:=h.nm
 unfold okS
 rw [e4,e5]
 simp [e1,e2,e3]
theorem mayC_of {c:Tc} (h:c.Ok):mayC c.cx = true:=by
 simp only [mayC,Bool.and_eq_true,decide_eq_true_eq,List.all_eq_true]
 refine ⟨h.nm,h.evf,h.vaf,?_,h.evs,h.vars,?_⟩
 ·rw [sh_cx]; exact h.sh
 ·intro s hs
  obtain ⟨t,ht,rfl⟩:=List.mem_map.1 hs
  exact okS_of (h.sts t ht)
def inT (n:Nat):List UInt8:=List.replicate (2 * n) 32
def wordT (k:Int):List UInt8:=if k = 1 then [108,101,97,102] else if k = 2 then [111,114] else [97,110,100]
def bareB (t:Ts):Bool:=t.en.isEmpty && (t.ex.isEmpty && t.tr.isEmpty)
section
variable (sh:List Sh)
def emptyB (l:List Ts) (i:Nat):Bool:=(l[i]?).elim true bareB && decide (ShapeSpec.kids sh i = [])
def lineA (w:List UInt8) (n:Nat) (ts:List Ta):List UInt8:=if ts = [] then [] else inT n ++ (w ++ (32 :: (putT ts ++ [59])) ++ [10])
def lineT (n:Nat) (t:Tt):List UInt8:=inT n ++ (T (txT t) ++ [10])
def insT (n:Nat) (t:Ts):List UInt8:=lineA [101,110,116,101,114] n t.en ++ (lineA [101,120,105,116] n t.ex ++ t.tr.flatMap (lineT n))
def headT (t:Ts):List UInt8:=wordT t.kind ++ (32 :: T t.s)
def stT (l:List Ts) (i:Nat):List UInt8 :=
 (l[i]?).elim [] fun t => if emptyB sh l i then inT ((up sh i).length + 1) ++ ((headT t ++ [59]) ++ [10]) else inT ((up sh i).length + 1) ++ ((headT t ++ [32,123]) ++ [10]) ++ insT ((up sh i).length + 2) t
def oneT (l:List Ts) (i j:Nat):List UInt8:=if endOf sh j = i + 1 ∧ emptyB sh l j = false then inT ((up sh j).length + 1) ++ ([125] ++ [10]) else []
def closT (l:List Ts) (i:Nat):List UInt8:=(sf sh i).flatMap (oneT sh l i)
def stsT (l:List Ts):List UInt8:=(List.range l.length).flatMap fun i => stT sh l i ++ closT sh l i
end
def sepT (l:List ByteArray):List UInt8:=Lib.join (l.map fun s => T s) [44,32]
def evT (l:List ByteArray):List UInt8:=if l = [] then [] else inT 1 ++ (([101,118,101,110,116] ++ (32 :: (sepT l ++ [59]))) ++ [10])
def varT (v:Vr):List UInt8 :=
 inT 1 ++ (([118,97,114] ++ (32 :: (T v.s ++ (32 :: (ValSpec.text v.lo ++ (32 :: ([46,46] ++ (32 :: (ValSpec.text v.hi ++ (32 :: ([61] ++ (32 :: (ValSpec.text v.ini ++ [59]))))))))))))) ++ [10])
def putC (c:Tc):List UInt8:=inT 0 ++ (([99,104,97,114,116] ++ (32 :: (T c.s ++ [32,123]))) ++ [10]) ++ (evT c.evs ++ (c.vars.flatMap varT ++ (stsT c.sh c.sts ++ (inT 0 ++ ([125] ++ [10])))))
def intK (n:Int):List Tx:=(if n < 0 then [(3,[45])] else []) ++ [(2,ValSpec.digs n.natAbs)]
def actK (w:List UInt8) (ts:List Ta):List Tx:=if ts = [] then [] else (1,w) :: (tkL ts ++ [(3,[59])])
def insK (t:Ts):List Tx:=actK [101,110,116,101,114] t.en ++ (actK [101,120,105,116] t.ex ++ t.tr.flatMap tkT)
def headK (t:Ts):List Tx:=[(1,wordT t.kind),(1,T t.s)]
section
variable (sh:List Sh)
def stK (l:List Ts) (i:Nat):List Tx:=(l[i]?).elim [] fun t => if emptyB sh l i then headK t ++ [(3,[59])] else headK t ++ ((3,[123]) :: insK t)
def oneK (l:List Ts) (i j:Nat):List Tx:=if endOf sh j = i + 1 ∧ emptyB sh l j = false then [(3,[125])] else []
def closK (l:List Ts) (i:Nat):List Tx:=(sf sh i).flatMap (oneK sh l i)
end
def sepK:List ByteArray → List Tx
 | [] => []
 | [s] => [(1,T s)]
 | s :: u :: r => (1,T s) :: (3,[44]) :: sepK (u :: r)
def varK (v:Vr):List Tx:=(1,[118,97,114]) :: (1,T v.s) :: (intK v.lo ++ ((3,[46,46]) :: (intK v.hi ++ ((3,[61]) :: (intK v.ini ++ [(3,[59])])))))
theorem small_abs {n:Int} (h:smallV n = true):n.natAbs ≤ 1000000:=by
 simp only [smallV,Bool.and_eq_true,decide_eq_true_eq] at h
 omega
theorem join_two (a b:List UInt8) (r:List (List UInt8)):Lib.join (a :: b :: r) [44,32] = a ++ ([44] ++ (32 :: Lib.join (b :: r) [44,32])):=by
 rw [Lib.join_cons,Lib.join_cons]
 simp [Lib.joinTail]
end PrintSpec
end Go.Proofs.YtjfghaohogcfbaaGreatDoor
namespace Go.Proofs.YtjfghaohogcfbaaGreatDoor
namespace PrintSpec
open CurSpec TermSpec EvalSpec NamesSpec ExprSpec ScanSpec ActSpec TransSpec SynSpec
open ShapeSpec (Sh up sf SU)
theorem fail_good {c:Cur} {e:Int} (h:(fail c e).bad = 0):e = 0:=Decidable.byContradiction fun he => absurd h (fail_bad c he)
end PrintSpec
end Go.Proofs.YtjfghaohogcfbaaGreatDoor