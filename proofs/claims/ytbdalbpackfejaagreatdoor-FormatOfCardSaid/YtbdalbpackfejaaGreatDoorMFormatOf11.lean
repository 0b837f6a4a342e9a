/- ScanToks, ExprParse, ExprScan, ActScan, TransScan, PrintSpec, FormMay, KitC, joined. -/
import Derived.Test.YtbdalbpackfejaaGreatDoorMFormatOf10
set_option maxHeartbeats 16000000
set_option maxRecDepth 100000
namespace Go.Proofs.YtbdalbpackfejaaGreatDoor
section
open Go.RowKit ScanSpec
set_option maxRecDepth 100000
theorem one_kind {d:List UInt8} {kd:Int} {ln:Nat} (h:ScanSpec.one d = (kd,ln,0)):kd ≠ 0:=by
 intro hk;subst hk;unfold ScanSpec.one at h
 split at h
 ·split at h<;>simp at h
 ·split at h
  ·split at h
   ·simp at h
   ·split at h<;>simp at h
  ·split at h<;>simp at h
theorem one_zero {d:List UInt8} {kd er:Int} {ln:Nat} (h:ScanSpec.one d = (kd,ln,er)) (hne:er ≠ 0):kd = 0 /\ ln = 0:=by
 unfold ScanSpec.one at h
 split at h
 ·split at h
  ·cases h; exact ⟨rfl,rfl⟩
  ·cases h; exact absurd rfl hne
 ·split at h
  ·split at h
   ·cases h; exact ⟨rfl,rfl⟩
   ·split at h
    ·cases h; exact ⟨rfl,rfl⟩
    ·cases h; exact absurd rfl hne
  ·split at h
   ·cases h; exact ⟨rfl,rfl⟩
   ·cases h; exact absurd rfl hne
theorem Qjy (s:ByteArray) (w:World) (h:65536 < s.size):Calls Tryz.prog 18 #[.string s] w (TokPost w s):=by
 have HT:Hid (scanT s.data.toList=([],0,5)):=qh (if_pos h);have hI:65536<(s.size:Int):=by omega
 go_enter Tryz.func18,Tryz.ntmps18;go_wp2_with fail;go_region
 all_goals
  go_wp2_with fail;refine bodyPost_ret (v:=.tuple #[.slice none 0 0,.agg #[.int .i64 1,.int .i64 1],.int .i64 5]) (by simp [results,Tryz.results18,go_sem]) rfl ?_;exact ⟨(((Below.refl _ _).alloc (Nat.le_refl _) _).alloc (by simp) _).drew,fun _=>by rw [HT.o]; rfl,fun h=>by rw [HT.o] at h; exact absurd h (by decide)⟩
structure TokLoop (W:World) (s:ByteArray) (k:Nat) (v:Value) (n j:Nat) (acc:List Tok) (wr:World):Prop where
 hk:k=s.size-j
 hj:j<=s.size
 hn:acc.length=n
 own:wr.ownsRow (W.heap.size+3) 76 4 v n (toksV s acc)
 go:∃ f,scanGo s.data.toList f (gap s.data.toList j) acc=scan s.data.toList/\s.size<=gap s.data.toList j+f
 few:n<=4000
 res:wr.heap[W.heap.size]?=some (.cells #[.int .i64 0,.int .i64 0] 24 (0,0))
 rdr:StandsAt wr (W.heap.size+2) s j
 below:Below W.heap.size W wr
 top:W.heap.size+3<=wr.heap.size
def TokLoopR (W:World) (s:ByteArray) (k:Nat) (v:Value) (wr:World):Prop:=∃ n j acc,TokLoop W s k v n j acc wr
theorem Qje {w:World} {s:ByteArray}:TokLoopR w s s.size (.slice none 0 0)
 (((w.alloc (.cells #[.int .i64 0,.int .i64 0] 24)).alloc (.cells #[.int .i64 1,.int .i64 1] 24)).alloc (.cells #[.string s,.int .i64 1,.int .i64 1] 84)):=by
 have e1:=World.size_alloc w (.cells #[.int .i64 0,.int .i64 0] 24);have e2:=World.size_alloc (w.alloc (.cells #[.int .i64 0,.int .i64 0] 24)) (.cells #[.int .i64 1,.int .i64 1] 24);have hg:=(QcM (l:=s.data.toList) (i:=0) (Nat.zero_le _)).1;refine ⟨0,0,[],by omega,Nat.zero_le _,rfl,⟨rfl,.inl ⟨rfl,rfl⟩⟩,⟨s.size,rfl,by omega⟩,by omega,?_,?_,?_,by simp⟩
 ·exact (heap_alloc_old _ _ (by simp; omega)).trans ((heap_alloc_old _ _ (by simp)).trans (heap_alloc_new _ _))
 ·unfold StandsAt RdrAt
  have:=heap_alloc_new ((w.alloc (.cells #[.int .i64 0,.int .i64 0] 24)).alloc (.cells #[.int .i64 1,.int .i64 1] 24)) (.cells #[.string s,.int .i64 1,.int .i64 1] 84);rw [e2,e1] at this;rw [extract_all];exact this
 ·exact (((Below.refl _ _).alloc (Nat.le_refl _) _).alloc (by simp) _).alloc (by simp; omega) _
structure TokMid (W:World) (s:ByteArray) (tb x:Nat) (kd p1 p2:Int) (tx:ByteArray) (w4:World):Prop where
 tok:w4.heap[tb]?=some (.cells #[.int .i64 kd,.string tx,.int .i64 p1,.int .i64 p2] 76 (0,0))
 res:w4.heap[W.heap.size]?=some (.cells #[.int .i64 0,.int .i64 0] 24 (0,0))
 rdr:StandsAt w4 (W.heap.size+2) s x
 below:Below W.heap.size W w4
 top:W.heap.size+3<=w4.heap.size
abbrev tokO (kd:Int) (tx:ByteArray) (p1 p2:Int):Obj:=.cells #[.int .i64 kd,.string tx,.int .i64 p1,.int .i64 p2] 76
theorem Qg4 {W wr w2 w4:World} {s tx:ByteArray} {k n j x:Nat} {v:Value} {acc:List Tok} {kd p1 p2:Int} (hL:TokLoop W s k v n j acc wr) (hb:wr.grownBy w2 (some (W.heap.size + 2))) (hR:StandsAt w2 (W.heap.size + 2) s x)
 (hg:((w2.alloc (tokO kd tx p1 p2)).alloc (tokO kd tx p1 p2)).grownBy w4 v.ownBlock):TokMid W s w2.heap.size x kd p1 p2 tx w4:=by
 have hv:=Qs (QaI hL.own hb (by omega));have ht:=hL.top;have h2:=hb.size;have h4:=hg.size;simp only [World.size_alloc] at h4
 have old:∀ i,i < w2.heap.size -> (i < W.heap.size + 3) -> w4.heap[i]? = w2.heap[i]?:=fun i hi hj =>
  (hg.block i (by simp; omega) (fun e=>by have:=(hv i e.symm).1; omega)).trans ((heap_alloc_old _ _ (by simp; omega)).trans (heap_alloc_old _ _ hi))
 refine ⟨?_,?_,?_,?_,by omega⟩
 ·exact (hg.block w2.heap.size (by simp; omega) (fun e=>by have:=(hv _ e.symm).2; omega)).trans ((heap_alloc_old _ _ (by simp)).trans (heap_alloc_new _ _))
 ·exact (old _ (by omega) (by omega)).trans ((hb.block _ (by omega) (by simp)).trans hL.res)
 ·exact (old _ (by omega) (by omega)).trans hR
 ·refine hL.below.trans ⟨?_,?_,?_,by omega,fun i hi => (old i (by omega) (by omega)).trans (hb.block i (by omega) (by simp; omega))⟩
  ·exact hg.os.trans hb.os
  ·exact hg.tape.trans hb.tape
  ·exact hg.output.trans hb.output
theorem toks_done {W w4:World} {s:ByteArray} {tb x g n cap k j:Nat} {acc:List Tok} {v u0 u1:Value} {wr:World} {p1 p2:Int} {tx:ByteArray} (hm:s.size <= 65536) (hL:TokLoop W s k v n j acc wr) (hG:g = gap s.data.toList j) (hP:pos s.data.toList g = (p1,p2)) (hge:g = s.size) (hM:TokMid W s tb x 0 p1 p2 tx w4) {gg:Nat}
 (hown:w4.ownsRow (W.heap.size+3) 76 4 (.slice (some ⟨gg,0,none⟩) (n+1) cap) (n+1) (toksV s acc++[.int .i64 0,.string ⟨#[]⟩,.int .i64 p1,.int .i64 p2])) :
 TokPost W s (.returned (.tuple #[.slice (some ⟨gg,0,none⟩) (n+1) cap,.agg #[.int .i64 0,.int .i64 0],.int .i64 0])) ((w4.setCell ⟨W.heap.size,0,none⟩ u0).setCell ⟨W.heap.size,1,none⟩ u1):=by
 obtain ⟨f,hgo,hf⟩:=hL.go;rw [<- hG] at hgo;refine tok_end (i:=g) (f:=f) ((show scanT s.data.toList=scan s.data.toList from if_neg (by rw [Qn]; omega))) hL.hn hgo (by omega) ?_ hM.below
 have e:endC s g = [.int .i64 0,.string ⟨#[]⟩,.int .i64 p1,.int .i64 p2]:=by
  unfold endC;rw [hP]; rfl
 rw [e];exact QhL hown (by omega)
theorem toks_next {W w4 wr:World} {s:ByteArray} {tb g n ln cap gg k j:Nat} {acc:List Tok} {v:Value} {kd p1 p2:Int} (hL:TokLoop W s k v n j acc wr) (hG:g = gap s.data.toList j) (hP:pos s.data.toList g = (p1,p2)) (hlt:g < s.size) (hO:ScanSpec.one (s.data.toList.drop g) = (kd,ln,0)) (hfull:¬ n = 4000)
 (hln:1<=ln) (hle:g+ln<=s.size) (hM:TokMid W s tb (g+ln) kd p1 p2 (s.extract g (g+ln)) w4)
 (hown:w4.ownsRow (W.heap.size+3) 76 4 (.slice (some ⟨gg,0,none⟩) (n+1) cap) (n+1) (toksV s acc++[.int .i64 kd,.string (s.extract g (g+ln)),.int .i64 p1,.int .i64 p2])) :
 TokLoopR W s (s.size-(g+ln)) (.slice (some ⟨gg,0,none⟩) (n+1) cap) w4/\s.size-(g+ln)<k:=by
 obtain ⟨f,hgo,hf⟩:=hL.go;rw [<- hG] at hgo hf;obtain ⟨f,rfl⟩:∃ f',f=f'+1:=⟨f-1,by omega⟩;have hk:=hL.hk;have hn:=hL.hn;have hfew:=hL.few;have hjg:=(QcM (l:=s.data.toList) (i:=j) hL.hj).1;rw [<- hG] at hjg;have hgb:=(QcM (l:=s.data.toList) (i:=g+ln) hle).1;refine ⟨⟨n+1,g+ln,acc++[⟨kd,g,ln⟩],rfl,hle,by simp [hn],?_,⟨f,?_,by omega⟩,by omega,hM.res,hM.rdr,hM.below,hM.top⟩,by omega⟩
 ·rw [<- QbJ]
  have e:tokV s ⟨kd,g,ln⟩ = [.int .i64 kd,.string (s.extract g (g + ln)),.int .i64 p1,.int .i64 p2]:=by
   unfold tokV;rw [hP]
  rw [e];exact hown
 ·rw [<- hgo,Qdl (by rw [Qn]; exact hlt) (by rw [hO]) (by rw [hn]; exact hfull),hO]
theorem Qjt {W wr:World} {s:ByteArray} {g n ln k j:Nat} {acc:List Tok} {v:Value} {kd er:Int} (hm:s.size <= 65536) (hL:TokLoop W s k v n j acc wr) (hG:g = gap s.data.toList j) (hlt:g < s.size) (hO:ScanSpec.one (s.data.toList.drop g) = (kd,ln,er)) (hne:er ≠ 0):scanT s.data.toList = ([],g,er):=by
 obtain ⟨f,hgo,hf⟩:=hL.go;rw [<- hG] at hgo hf;obtain ⟨f,rfl⟩:∃ f',f=f'+1:=⟨f-1,by omega⟩;rw [show scanT s.data.toList=scan s.data.toList from if_neg (by rw [Qn]; omega),<- hgo,QeL (by rw [Qn]; exact hlt) (by rw [hO]; exact hne),hO]
theorem toks_full {W wr:World} {s:ByteArray} {g n ln k j:Nat} {acc:List Tok} {v:Value} {kd:Int} (hm:s.size <= 65536) (hL:TokLoop W s k v n j acc wr) (hG:g = gap s.data.toList j) (hlt:g < s.size) (hO:ScanSpec.one (s.data.toList.drop g) = (kd,ln,0)) (hfull:n = 4000):scanT s.data.toList = ([],g,8):=by
 obtain ⟨f,hgo,hf⟩:=hL.go;rw [<- hG] at hgo hf;obtain ⟨f,rfl⟩:∃ f',f=f'+1:=⟨f-1,by omega⟩;rw [show scanT s.data.toList=scan s.data.toList from if_neg (by rw [Qn]; omega),<- hgo,Qdk (by rw [Qn]; exact hlt) (by rw [hO]) (by rw [hL.hn]; exact hfull)]
theorem Qio {W wr w2:World} {s:ByteArray} {k n j g:Nat} {v u0 u1:Value} {acc:List Tok} {o:Obj} {p1 p2 er:Int} (hL:TokLoop W s k v n j acc wr) (hb:wr.grownBy w2 (some (W.heap.size + 2))) (hP:pos s.data.toList g = (p1,p2)) (hT:scanT s.data.toList = ([],g,er)) (hne:er ≠ 0) :
 TokPost W s (.returned (.tuple #[.slice none 0 0,.agg #[.int .i64 p1,.int .i64 p2],.int .i64 er])) (((w2.alloc o).setCell ⟨W.heap.size,0,none⟩ u0).setCell ⟨W.heap.size,1,none⟩ u1).drew:=by
 have ht:=hL.top;have h2:=hb.size;have hB:Below W.heap.size W w2:=hL.below.trans ⟨hb.os,hb.tape,hb.output,h2,fun i hi=>hb.block i (by omega) (by simp; omega)⟩;have:=Qga (s:=s) (i:=g) (er:=er) ((((hB.alloc (by omega) o).setCell (p:=⟨W.heap.size,0,none⟩) (Nat.le_refl _) u0).setCell (p:=⟨W.heap.size,1,none⟩) (Nat.le_refl _) u1).drew) hT hne
 rwa [hP] at this
theorem QhG {W wr w2:World} {s:ByteArray} {k n j:Nat} {v:Value} {acc:List Tok} (o:Obj) (hL:TokLoop W s k v n j acc wr) (hb:wr.grownBy w2 (some (W.heap.size + 2))) :
 (w2.alloc o).heap[W.heap.size]?=some (.cells #[.int .i64 0,.int .i64 0] 24 (0,0)):=by
 have ht:=hL.top;have h2:=hb.size;exact (heap_alloc_old _ _ (by omega)).trans ((hb.block _ (by omega) (by simp)).trans hL.res)
theorem toks_good {s tx:ByteArray} {j g B ln:Nat} {kd p1 p2:Int} {wr:World} (hpw:PairsIn wr) (hB:0 ≠ B) (hg:g = gap s.data.toList j) (hp:pos s.data.toList g = (p1,p2)) (he:g < s.size) (hO:ScanSpec.one (s.data.toList.drop g) = (kd,ln,0)) (hle:g + ln <= s.size) (htx:tx = s.extract g (g + ln)) (hj:j <= s.size) (hs:s.size <= 9223372036854775800) (h:StandsAt wr B s j) :
 Calls Tryz.prog 40 #[.pointer (some ⟨B,0,none⟩)] wr fun e w'=>e = .returned (.tuple #[.agg #[.int .i64 kd,.string tx,.int .i64 p1,.int .i64 p2],.int .i64 0])/\StandsAt w' B s (g+ln)/\wr.grownBy w' (some B):=by
 subst htx;have hsz:=Zl s g;refine (QfK B j s wr hj hs h kd ln (by omega) (fun k hk=>by rw [<- hg]; exact QiN hO k hk) (fun w' hb=>?_)).mono ?_
 ·rw [<- hg]
  refine (Qfe (s.extract g s.size) w' (hpw.but hb hB) (by omega) (by omega)).mono ?_;rintro e w2 ⟨kd',er',ln',hO',he',hw'⟩;rw [extract_drop,hO] at hO'
  cases hO'
  exact ⟨he',hw'⟩
 ·rintro e w' ⟨h1,h2,h3⟩
  rw [<- hg] at h1 h2;refine ⟨?_,h2,h3⟩;rw [h1,tokA,hp]
theorem Qi7 {s:ByteArray} {j g B ln:Nat} {kd p1 p2 er:Int} {wr:World} (hpw:PairsIn wr) (hB:0 ≠ B) (hg:g = gap s.data.toList j) (hp:pos s.data.toList g = (p1,p2)) (he:g < s.size) (hO:ScanSpec.one (s.data.toList.drop g) = (kd,ln,er)) (hne:er ≠ 0) (hj:j <= s.size) (hs:s.size <= 9223372036854775800) (h:StandsAt wr B s j) :
 Calls Tryz.prog 40 #[.pointer (some ⟨B,0,none⟩)] wr fun e w'=>e = .returned (.tuple #[.agg #[.int .i64 0,.string ⟨#[]⟩,.int .i64 p1,.int .i64 p2],.int .i64 er])/\wr.grownBy w' (some B):=by
 have hsz:=Zl s g;obtain ⟨rfl,rfl⟩:=one_zero hO hne;refine (next_bad B j s wr hj hs h er hne (fun w' hb=>?_)).mono ?_
 ·rw [<- hg]
  refine (Qfe (s.extract g s.size) w' (hpw.but hb hB) (by omega) (by omega)).mono ?_;rintro e w2 ⟨kd',er',ln',hO',he',hw'⟩;rw [extract_drop,hO] at hO'
  cases hO'
  exact ⟨he',hw'⟩
 ·rintro e w' ⟨h1,h3⟩
  rw [<- hg] at h1;refine ⟨?_,h3⟩;rw [h1,hp]
theorem toks_end {s:ByteArray} {j g B:Nat} {p1 p2:Int} {wr:World} (hg:g = gap s.data.toList j) (hp:pos s.data.toList g = (p1,p2)) (he:g = s.size) (hj:j <= s.size) (hs:s.size <= 9223372036854775800) (h:StandsAt wr B s j) :
 Calls Tryz.prog 40 #[.pointer (some ⟨B,0,none⟩)] wr fun e w'=>e = .returned (.tuple #[.agg #[.int .i64 0,.string ⟨#[]⟩,.int .i64 p1,.int .i64 p2],.int .i64 0])/\StandsAt w' B s g/\wr.grownBy w' (some B):=by
 have hx:s.extract g s.size = ⟨#[]⟩:=by
  apply ByteArray.ext
  apply Array.toList_inj.mp
  rw [extract_drop,List.drop_eq_nil_of_le (by rw [Qn]; omega)]
 refine (QfK B j s wr hj hs h 0 0 (by omega) (fun k hk=>absurd hk (by omega)) (fun w' _=>?_)).mono ?_
 ·rw [<- hg,hx]
  exact first_end w'
 ·rintro e w' ⟨h1,h2,h3⟩
  rw [<- hg] at h1 h2;refine ⟨?_,h2,h3⟩
  rw [h1,tokA,hp,show s.extract g (g + 0) = ⟨#[]⟩ by
   apply ByteArray.ext
   simp]
theorem Qg9 (s:ByteArray) (w:World) (hp:PairsIn w) (h:s.size <= 65536):Calls Tryz.prog 18 #[.string s] w (TokPost w s):=by
 have hI:(s.size:Int)<=65536:=by omega
 have HP:=qh hp;clear hp;obtain ⟨i0,hi,hz0,hz1,hz2⟩:=info_parts Qil;go_enter Tryz.func18,Tryz.ntmps18;go_wp2_with fail
 go_loopg [6] s.size (fun k v wr=>TokLoopR w s k v wr)
 case atStart=>exact Qje
 case round =>
  obtain ⟨n,j,acc,hL⟩:=hrel;obtain ⟨A,c,rfl⟩:=QR hL.own;have hj:=hL.hj;have hg:=QcM (l:=s.data.toList) (i:=j) hj;rw [Qn] at hg;obtain ⟨g,hgE⟩:∃ g,g=gap s.data.toList j:=⟨_,rfl⟩;obtain ⟨p1,p2,hpE⟩:∃ p1 p2,pos s.data.toList g=(p1,p2):=⟨_,_,rfl⟩;have HG:=qh hgE;have HPos:=qh hpE;have HL:=qh hL;have HPw:Hid (PairsIn wr):=qh (HP.o.keep hL.below);rw [<- hgE] at hg;obtain ⟨hg1,hg2⟩:=hg;clear hL hgE hpE
  by_cases hge:g=s.size
  ·have HN:Hid (Calls Tryz.prog 40 #[.pointer (some ⟨w.heap.size + 2,0,none⟩)] wr fun e w' => e = .returned (.tuple #[.agg #[.int .i64 0,.string ⟨#[]⟩,.int .i64 p1,.int .i64 p2],.int .i64 0]) /\ StandsAt w' (w.heap.size + 2) s g /\ wr.grownBy w' (some (w.heap.size + 2))):=qh (toks_end HG.o HPos.o hge hj (by omega) HL.o.rdr)
   have HGe:=qh hge;clear hge;go_wp2_with fail;refine (HN.o).mono ?_;rintro e w2 ⟨rfl,hR2,hb2⟩;have hown2:=QaI HL.o.own hb2 (by omega);have hsz2:=hb2.size;have htop:=HL.o.top;have hfew:=HL.o.few;have HR2:=qh hR2;have HB2:=qh hb2;have hown3:=(hown2.alloc (.cells #[.int .i64 0,.string ⟨#[]⟩,.int .i64 p1,.int .i64 p2] 76)).alloc (.cells #[.int .i64 0,.string ⟨#[]⟩,.int .i64 p1,.int .i64 p2] 76);have hnew:=heap_alloc_new (w2.alloc (.cells #[.int .i64 0,.string ⟨#[]⟩,.int .i64 p1,.int .i64 p2] 76)) (.cells #[.int .i64 0,.string ⟨#[]⟩,.int .i64 p1,.int .i64 p2] 76);rw [World.size_alloc] at hnew;have HOwn:=qh hown3;have HNew:=qh hnew;clear hR2 hb2 hown2 hown3 hnew;go_wp2_with (at_builtin; refine wpList_append_lies _ rfl (.tmp 39) (.tmp 41) _ rfl (w.heap.size+3) 76 i0 _ 4 40 Tryz.underlying40 hi hz0 hz1 hz2 rfl (by decide) _ n (toksV s acc) rfl HOwn.o ⟨w2.heap.size+1,0,none⟩ 1 1 [.int .i64 0,.string ⟨#[]⟩,.int .i64 p1,.int .i64 p2] rfl rfl (World.news_of_block (cs:=#[.int .i64 0,.string ⟨#[]⟩,.int .i64 p1,.int .i64 p2]) (t:=76) (fr:=(0,0)) HNew.o) (by simp [Value.oneCell']) (by decide) ?_ ?_ ?_ (w2.heap.size+2) ?_ ?_; (unfold maxLen; omega); omega; (simp; omega); (simp); intro gg cap4 w4 hown4 hgrow4 hat4 hlt4; have HM:=qh (Qg4 HL.o HB2.o HR2.o hgrow4); have k0:=Qb HM.o.tok (i:=0) rfl; have r0:=Qb HM.o.res (i:=0) rfl; have r1:=Qb HM.o.res (i:=1) rfl; have f0:=Qf HM.o.res 0; have f1:=Qf HM.o.res 1; have HOwn4:=qh hown4; have htop4:=HM.o.top; clear hgrow4 hown4);have q0:=fun u=>(Q8 HM.o.res u u).1
   have q1:=fun u v=>(Q8 HM.o.res u v).2
   refine bodyPost_ret (v:=.tuple #[.slice (some ⟨gg,0,none⟩) (n+1) cap4,.agg #[.int .i64 0,.int .i64 0],.int .i64 0]) (by simp [results,Tryz.results18,go_sem,q0,q1]) rfl ?_;exact toks_done h HL.o HG.o HPos.o HGe.o HM.o HOwn4.o
  ·have hlt:g < s.size:=by omega
   obtain ⟨kd,ln,er,hO⟩:∃ kd ln er,ScanSpec.one (s.data.toList.drop g)=(kd,ln,er):=⟨_,_,_,rfl⟩;have htop:=HL.o.top;have hfew:=HL.o.few;have HO:=qh hO
   by_cases her:er=0
   ·subst her
    have hb1:=(one_bd (s.data.toList.drop g) (by rw [List.length_drop,Qn]; omega)).1;rw [hO] at hb1;obtain ⟨hln,hle⟩:=hb1 rfl;rw [List.length_drop,Qn] at hle;have hle':g+ln<=s.size:=by simp only at hle; omega
    have hln':1<=ln:=hln;have hkd:=one_kind hO;have hkd0:(kd==0)=false:=by simpa using hkd
    have hkd1:(kd != 0)=true:=by simpa using hkd
    obtain ⟨tx,htx⟩:∃ tx,tx=s.extract g (g+ln):=⟨_,rfl⟩;have HN:=qh (toks_good HPw.o (by omega) HG.o HPos.o hlt hO hle' htx hj (by omega) HL.o.rdr);have HTx:=qh htx;clear hO hb1 hln hle hkd hge htx
    by_cases hfull:n=4000
    ·have e4:((n:Int) == 4000) = true:=by simp; omega
     have HT:=qh (toks_full h HL.o HG.o hlt HO.o hfull);clear hfull;go_wp2_with fail;refine (HN.o).mono ?_;rintro e w2 ⟨rfl,hR2,hb2⟩;have hres:=QhG (tokO kd tx p1 p2) HL.o hb2;have hsz2:=hb2.size;have r0:=Qb hres (i:=0) rfl;have r1:=Qb hres (i:=1) rfl;have f0:=Qf hres 0;have f1:=Qf hres 1;have HRes:=qh hres;have HB2:=qh hb2;clear hR2 hres hb2;go_wp2_with fail;go_region
     all_goals
      go_wp2_with fail;have q0:=fun u=>(Q8 HRes.o u u).1
      have q1:=fun u v=>(Q8 HRes.o u v).2
      refine bodyPost_ret (v:=.tuple #[.slice none 0 0,.agg #[.int .i64 p1,.int .i64 p2],.int .i64 8]) (by simp [results,Tryz.results18,go_sem,q0,q1]) rfl ?_;exact Qio HL.o HB2.o HPos.o HT.o (by decide)
    ·have e4:((n:Int) == 4000) = false:=by simp; omega
     have HFu:=qh hfull;clear hfull;go_wp2_with fail;refine (HN.o).mono ?_;rintro e w2 ⟨rfl,hR2,hb2⟩;have hown2:=QaI HL.o.own hb2 (by omega);have hsz2:=hb2.size;have HR2:=qh hR2;have HB2:=qh hb2;have hown3:=(hown2.alloc (tokO kd tx p1 p2)).alloc (tokO kd tx p1 p2);have hnew:=heap_alloc_new (w2.alloc (tokO kd tx p1 p2)) (tokO kd tx p1 p2);rw [World.size_alloc] at hnew;have HOwn:=qh hown3;have HNew:=qh hnew;clear hR2 hb2 hown2 hown3 hnew;go_wp2_with (at_builtin; refine wpList_append_lies _ rfl (.tmp 39) (.tmp 41) _ rfl (w.heap.size+3) 76 i0 _ 4 40 Tryz.underlying40 hi hz0 hz1 hz2 rfl (by decide) _ n (toksV s acc) rfl HOwn.o ⟨w2.heap.size+1,0,none⟩ 1 1 [.int .i64 kd,.string tx,.int .i64 p1,.int .i64 p2] rfl rfl (World.news_of_block (cs:=#[.int .i64 kd,.string tx,.int .i64 p1,.int .i64 p2]) (t:=76) (fr:=(0,0)) HNew.o) (by simp [Value.oneCell']) (by decide) ?_ ?_ ?_ (w2.heap.size+2) ?_ ?_; (unfold maxLen; omega); omega; (simp; omega); (simp); intro gg cap4 w4 hown4 hgrow4 hat4 hlt4; have HM:=qh (Qg4 HL.o HB2.o HR2.o hgrow4); have k0:=Qb HM.o.tok (i:=0) rfl; have r0:=Qb HM.o.res (i:=0) rfl; have r1:=Qb HM.o.res (i:=1) rfl; have f0:=Qf HM.o.res 0; have f1:=Qf HM.o.res 1; have HOwn4:=qh hown4; have htop4:=HM.o.top; clear hgrow4 hown4);have HEnd:=qh (toks_next HL.o HG.o HPos.o hlt HO.o HFu.o hln' hle' (by have:=HM.o; rwa [HTx.o] at this) (by have:=HOwn4.o; rwa [HTx.o] at this))
     go_roundg (s.size-(g+ln))
     case rel=>exact HEnd.o.1
     case measure=>exact HEnd.o.2
   ·have HN:=qh (Qi7 HPw.o (by omega) HG.o HPos.o hlt hO her hj (by omega) HL.o.rdr)
    have HT:=qh (Qjt h HL.o HG.o hlt HO.o her);have e0:(er==0)=false:=by simpa using her
    have e1:(er != 0)=true:=by simpa using her
    clear hO hge;have HEr:=qh her;clear her;go_wp2_with fail;refine (HN.o).mono ?_;rintro e w2 ⟨rfl,hb2⟩;have hres:=QhG (tokO 0 ⟨#[]⟩ p1 p2) HL.o hb2;have hsz2:=hb2.size;have r0:=Qb hres (i:=0) rfl;have r1:=Qb hres (i:=1) rfl;have f0:=Qf hres 0;have f1:=Qf hres 1;have HRes:=qh hres;have HB2:=qh hb2;clear hres hb2;go_wp2_with fail;go_region
    all_goals
     go_wp2_with fail;have q0:=fun u=>(Q8 HRes.o u u).1
     have q1:=fun u v=>(Q8 HRes.o u v).2
     refine bodyPost_ret (v:=.tuple #[.slice none 0 0,.agg #[.int .i64 p1,.int .i64 p2],.int .i64 er]) (by simp [results,Tryz.results18,go_sem,q0,q1]) rfl ?_;exact Qio HL.o HB2.o HPos.o HT.o HEr.o
theorem QcC (s:ByteArray) (w:World) (hp:PairsIn w):Calls Tryz.prog 18 #[.string s] w (TokPost w s):=by
 by_cases h:65536<s.size
 ·exact Qjy s w h
 ·exact Qg9 s w hp (by omega)
end
section
open Go.RowKit CurSpec TermSpec ExprSpec NamesSpec ScanSpec
def tokOf (s:ByteArray) (t:Tok):Tk:=⟨t.kind,s.extract t.at_ (t.at_+t.len),(pos s.data.toList t.at_).1,(pos s.data.toList t.at_).2⟩
theorem Qhu (s:ByteArray) (l:List Tok):toksV s l = tksV (l.map (tokOf s)):=by
 unfold toksV tksV;rw [List.flatMap_map]
 rfl
def tkAll (s:ByteArray):List Tk:=(scanT s.data.toList).1.map (tokOf s)
def cur0 (L:List Tk):Cur:=⟨L,0,0,0,0,0⟩
theorem QdL (l:List UInt8):∀ (f i:Nat) (acc:List Tok),acc.length <= 4000 -> (scanGo l f i acc).1.length <= 4001
 | 0,i,acc,h => by simp [scanGo]; omega
 | f + 1,i,acc,h => by
   unfold scanGo
   split
   ·simp; omega
   ·dsimp only
    split
    ·simp
    split
    ·simp
    ·exact QdL l f _ _ (by simp; omega)
theorem Qfb (l:List UInt8):(scanT l).1.length <= 4001:=by
 unfold scanT
 split
 ·simp
 ·exact QdL l _ _ _ (by simp)
theorem tkAll_len (s:ByteArray):(tkAll s).length<=4001:=by unfold tkAll; rw [List.length_map]; exact Qfb _
theorem Qhp (s:ByteArray) (h:s.size <= 9223372036854775807):Ok (cur0 (tkAll s)):=by
 intro t ht;obtain ⟨x,_,rfl⟩:=List.mem_map.1 ht
 show (s.extract _ _).size<=_
 rw [ByteArray.size_extract];omega
theorem Tms.but {w w':World} {A:Option Addr} {n cp B:Nat} {l:List Tm} (h:Tms w (.slice A n cp) l) (hb:w.grownBy w' (some B)) (hne:(Value.slice A n cp).ownBlock ≠ some B):Tms w' (.slice A n cp) l:=by
 obtain ⟨m,hm,A',c',heq,hc,hl,hA⟩:=h
 cases heq
 refine ⟨n,hm,A,cp,rfl,hc,hl,fun h0=>?_⟩;obtain ⟨b,off,rfl,hlt,hcell⟩:=hA h0;refine ⟨b,off,rfl,Nat.lt_of_lt_of_le hlt hb.size,fun j u hj=>?_⟩;rw [<- hcell j u hj];have:=hb.block b hlt (fun e=>hne (by rw [<- e]; rfl));simp [World.cell?,this]
end
section
namespace ExprSpec
open CurSpec TermSpec ScanSpec
def Stop (r:List UInt8):Prop:=∀ c,r.head?=some c->isWord c=false/\isNum c=false/\clsB c≠1/\clsB c≠3
theorem run_all {p:UInt8 -> Bool}:∀ {s r:List UInt8},s.all p = true -> (∀ c,r.head? = some c -> p c = false) -> run p (s ++ r) = s.length
 | [],[],_,_ => rfl
 | [],c :: r,_,h => by rw [List.nil_append,run,if_neg (by rw [h c rfl]; decide)]; rfl
 | a :: s,r,h,hr => by
   rw [List.all_cons,Bool.and_eq_true] at h;rw [List.cons_append,run,if_pos h.1,run_all h.2 hr]
   rfl
theorem cls_past (s r:List UInt8) (hs:Stop r):cls (s ++ r) s.length ≠ 1 /\ cls (s ++ r) s.length ≠ 3:=by
 unfold cls;rw [List.getElem?_append_right (Nat.le_refl _),Nat.sub_self]
 cases r with
 | nil => simp
 | cons c r => exact (hs c rfl).2.2
theorem QgH {a:UInt8} {t r:List UInt8} (ha:clsB a = 2) (hw:(a :: t).all isNum = true) (hl:(a :: t).length <= 9) (hs:Stop r):ScanSpec.one (a :: t ++ r) = (2,(a :: t).length,0):=by
 have hr:=run_all hw (fun c hc=>(hs c hc).2.1);have hc:=cls_past (a::t) r hs;have h2:cls (a::t++r) 0=2:=ha;unfold ScanSpec.one;rw [if_neg (by omega),if_pos h2,hr,if_neg (by omega),if_neg (by omega)]
theorem QeA {s r:List UInt8} (hc:cls (s ++ r) 0 = 0) (h0:0 < s.length) (hm:markLen (s ++ r) = s.length):ScanSpec.one (s ++ r) = (3,s.length,0):=by
 unfold ScanSpec.one;rw [if_neg (by omega),if_neg (by omega),hm,if_neg (by omega)]
def Sc (l:List UInt8):Nat -> List Tx -> Nat -> Prop
 | i,[],j => i = j
 | i,(k,s) :: r,j => i < l.length /\ ScanSpec.one (l.drop i) = (k,s.length,0) /\ (l.drop i).take s.length = s /\ 0 < s.length /\ Sc l (gap l (i + s.length)) r j
theorem Zx (a b:ByteArray):(a++b).data.toList=a.data.toList++b.data.toList:=by simp [ByteArray.data_append]
abbrev T (s:ByteArray):List UInt8:=s.data.toList
theorem QdK:∀ {e:Ex},Good e -> (tk e).length <= 6 * (flat e).length
 | .leaf t,h => by
   show _<=6
   unfold tk
   repeat' split
   all_goals simp
 | .un o a,h => by
   have ih:=QdK h.2
   show _<=6*((flat a).length+1)
   unfold tk twr
   repeat' split
   all_goals simp only [List.length_cons,List.length_append,List.length_nil]; omega
 | .bin o a b,h => by
   have iha:=QdK h.2.1;have ihb:=QdK h.2.2
   show _<=6*((flat a++flat b).length+1)
   rw [List.length_append];unfold tk twr
   repeat' split
   all_goals simp only [List.length_cons,List.length_append,List.length_nil]; omega
end ExprSpec
end
section
namespace ActSpec
open CurSpec TermSpec EvalSpec NamesSpec ExprSpec ScanSpec
def tkA (t:Ta):List Tx:=if t.any then [(1,[97,110,121]),(1,T t.s)] else (1,T t.s)::(3,[58,61])::tk t.e
def tkL:List Ta -> List Tx
 | [] => []
 | [t] => tkA t
 | t :: u :: r => tkA t ++ (3,[44]) :: tkL (u :: r)
theorem putT_cons (t u:Ta) (r:List Ta):putT (t :: u :: r) = T (txA t) ++ ([44] ++ ([32] ++ putT (u :: r))):=by
 unfold putT;rw [List.map_cons,Lib.join_cons,List.map_cons,Lib.join_cons];simp [Lib.joinTail]
theorem putT_one (t:Ta):putT [t]=T (txA t):=by unfold putT; rw [List.map_cons,List.map_nil,Lib.join_one]
end ActSpec
end
section
namespace TransSpec
open CurSpec TermSpec EvalSpec NamesSpec ExprSpec ScanSpec ActSpec
def tkH (x:Tt):List Tx:=if x.ev.size=0 then [(1,[97,117,116,111])] else [(1,[111,110]),(1,T x.ev)]
def tkG:Option Ex -> List Tx
 | none => []
 | some e => (3,[91]) :: (tk e ++ [(3,[93])])
def tkC (ts:List Ta):List Tx:=if ts=[] then [] else (3,[47])::tkL ts
def tkD (s:ByteArray):List Tx:=if s.size=0 then [] else [(3,[45,62]),(1,T s)]
def tkT (x:Tt):List Tx:=tkH x++(tkG x.g++(tkC x.ts++(tkD x.tg++[(3,[59])])))
def Pc (s:List UInt8) (ts:List Tx):Prop:=∀ (l:List UInt8) (i:Nat) (r:List UInt8),l.drop i=s++r->Stop r->Sc l (gap l i) ts (gap l (i+s.length))
theorem putB_T (ts:List Ta):T (putB ts)=putT ts:=by simp [putB,T]
theorem txT_T (x:Tt):T (txT x) = T (headB x) ++ (T (guardB x.g) ++ (T (actsB x.ts) ++ (T (tgB x.tg) ++ [59]))):=by
 unfold txT;simp only [T,Zx,List.append_assoc]
def Behind (c:Cur) (ws:List ByteArray):Prop:=(next c).k=3/\(next c).t∈ws
end TransSpec
end
section
namespace PrintSpec
open CurSpec TermSpec EvalSpec NamesSpec ExprSpec ScanSpec ActSpec TransSpec SynSpec
open ShapeSpec (Sh up sf endOf)
def shOf (s:Sx):Sh:=⟨s.kind,s.par⟩
def smallV (n:Int):Bool:=decide (-1000<=n)&&decide (n<=1000)
def okV (v:Vr):Bool:=isName v.s.data.toList&&(smallV v.lo&&(smallV v.hi&&smallV v.ini))
def okS (s:Sx):Bool:=isName s.s.data.toList&&(decide (chkA s.en=0)&&(decide (chkA s.ex=0)&&(decide (s.tr.length<=16)&&s.tr.all fun t=>decide (chkT t=0))))
def mayC (x:Cx):Bool :=
 isName x.s.data.toList&&(decide (x.evs.length<=8)&&(decide (x.vars.length<=4)&&(decide (ShapeSpec.chk (x.sts.map shOf)=0)&&((x.evs.all fun e=>isName e.data.toList)&&(x.vars.all okV&&x.sts.all okS)))))
structure Ts where
 s:ByteArray
 kind:Int
 par:Int
 en:List Ta
 ex:List Ta
 tr:List Tt
def Ts.sx (t:Ts):Sx:=⟨t.s,t.kind,t.par,t.en.map Ta.ac,t.ex.map Ta.ac,t.tr.map Tt.tr⟩
structure Ts.Ok (t:Ts):Prop where
 nm:isName t.s.data.toList=true
 en:∀ a∈t.en,a.Ok
 enf:t.en.length<=8
 ex:∀ a∈t.ex,a.Ok
 exf:t.ex.length<=8
 tr:∀ a∈t.tr,a.Ok
 trf:t.tr.length<=16
structure Tc where
 s:ByteArray
 evs:List ByteArray
 vars:List Vr
 sts:List Ts
def Tc.cx (c:Tc):Cx:=⟨c.s,c.evs,c.vars,c.sts.map Ts.sx⟩
def Tc.sh (c:Tc):List Sh:=c.sts.map fun t=>⟨t.kind,t.par⟩
structure Tc.Ok (c:Tc):Prop where
 nm:isName c.s.data.toList=true
 evf:c.evs.length<=8
 vaf:c.vars.length<=4
 sh:ShapeSpec.chk c.sh=0
 evs:∀ e∈c.evs,isName e.data.toList=true
 vars:∀ v∈c.vars,okV v=true
 sts:∀ t∈c.sts,t.Ok
theorem sh_cx (c:Tc):c.cx.sts.map shOf = c.sh:=by
 unfold Tc.cx Tc.sh;rw [List.map_map]
 rfl
theorem trs_of:∀ {l:List Tr},(∀ t ∈ l,chkT t = 0) -> ∃ ts:List Tt,ts.map Tt.tr = l /\ ∀ t ∈ ts,t.Ok
 | [],_ => ⟨[],rfl,by simp⟩
 | t :: r,h => by
   obtain ⟨x,hx,hok⟩:=tt_of (h t (by simp));obtain ⟨ts,hts,hoks⟩:=trs_of (l:=r) fun u hu=>h u (by simp [hu])
   refine ⟨x::ts,by rw [List.map_cons,hx,hts],fun u hu=>?_⟩
   rcases List.mem_cons.1 hu with rfl | hu
   ·exact hok
   ·exact hoks u hu
theorem ts_of {s:Sx} (h:okS s = true):∃ t:Ts,t.sx = s /\ t.Ok:=by
 obtain ⟨n,k,p,en,ex,tr⟩:=s;simp only [okS,Bool.and_eq_true,decide_eq_true_eq,List.all_eq_true] at h;obtain ⟨h1,h2,h3,h4,h5⟩:=h;obtain ⟨e8,e1⟩:=QgE h2;obtain ⟨x8,x1⟩:=QgE h3;obtain ⟨te,rfl,hte⟩:=Qgf e1;obtain ⟨tx,rfl,htx⟩:=Qgf x1;obtain ⟨tt,rfl,htt⟩:=trs_of h5;rw [List.length_map] at e8 x8 h4;exact ⟨⟨n,k,p,te,tx,tt⟩,rfl,h1,hte,e8,htx,x8,htt,h4⟩
theorem tss_of:∀ {l:List Sx},(∀ s ∈ l,okS s = true) -> ∃ ts:List Ts,ts.map Ts.sx = l /\ ∀ t ∈ ts,t.Ok
 | [],_ => ⟨[],rfl,by simp⟩
 | s :: r,h => by
   obtain ⟨x,hx,hok⟩:=ts_of (h s (by simp));obtain ⟨ts,hts,hoks⟩:=tss_of (l:=r) fun u hu=>h u (by simp [hu])
   refine ⟨x::ts,by rw [List.map_cons,hx,hts],fun u hu=>?_⟩
   rcases List.mem_cons.1 hu with rfl | hu
   ·exact hok
   ·exact hoks u hu
theorem tc_of {x:Cx} (h:mayC x = true):∃ c:Tc,c.cx = x /\ c.Ok:=by
 obtain ⟨s,evs,vars,sts⟩:=x;simp only [mayC,Bool.and_eq_true,decide_eq_true_eq,List.all_eq_true] at h;obtain ⟨h1,h2,h3,h4,h5,h6,h7⟩:=h;obtain ⟨ts,rfl,hts⟩:=tss_of h7;refine ⟨⟨s,evs,vars,ts⟩,rfl,h1,h2,h3,?_,h5,h6,hts⟩;rw [<- sh_cx];exact h4
theorem Qev {ts:List Ta} (h:∀ a ∈ ts,a.Ok) (h8:ts.length <= 8):chkA (ts.map Ta.ac) = 0:=by
 unfold chkA;rw [if_neg (by rw [List.length_map]; omega)];exact QbC h
theorem okS_of {t:Ts} (h:t.Ok):okS t.sx = true:=by
 have e1:chkA t.sx.en=0:=Qev h.en h.enf;have e2:chkA t.sx.ex=0:=Qev h.ex h.exf;have e3:t.sx.tr.length<=16:=by show (t.tr.map Tt.tr).length<=16; rw [List.length_map]; exact h.trf
 have e4:(t.sx.tr.all fun t => decide (chkT t = 0)) = true:=by
  rw [List.all_eq_true];intro x hx;obtain ⟨a,ha,rfl⟩:=List.mem_map.1 (show x∈t.tr.map Tt.tr from hx)
  simpa using tt_chk (h.tr a ha)
 have e5:isName t.sx.s.data.toList=true:=h.nm;unfold okS;rw [e4,e5];simp [e1,e2,e3]
theorem mayC_of {c:Tc} (h:c.Ok):mayC c.cx = true:=by
 simp only [mayC,Bool.and_eq_true,decide_eq_true_eq,List.all_eq_true];refine ⟨h.nm,h.evf,h.vaf,?_,h.evs,h.vars,?_⟩
 ·rw [sh_cx]; exact h.sh
 ·intro s hs
  obtain ⟨t,ht,rfl⟩:=List.mem_map.1 hs;exact okS_of (h.sts t ht)
def inT (n:Nat):List UInt8:=List.replicate (2*n) 32
def wordT (k:Int):List UInt8:=if k=1 then [108,101,97,102] else if k=2 then [111,114] else [97,110,100]
def bareB (t:Ts):Bool:=t.en.isEmpty&&(t.ex.isEmpty&&t.tr.isEmpty)
section
variable (sh:List Sh)
def emptyB (l:List Ts) (i:Nat):Bool:=(l[i]?).elim true bareB&&decide (ShapeSpec.kids sh i=[])
def lineA (w:List UInt8) (n:Nat) (ts:List Ta):List UInt8:=if ts=[] then [] else inT n++(w++(32::(putT ts++[59]))++[10])
def lineT (n:Nat) (t:Tt):List UInt8:=inT n++(T (txT t)++[10])
def insT (n:Nat) (t:Ts):List UInt8:=lineA [101,110,116,101,114] n t.en++(lineA [101,120,105,116] n t.ex++t.tr.flatMap (lineT n))
def headT (t:Ts):List UInt8:=wordT t.kind++(32::T t.s)
def stT (l:List Ts) (i:Nat):List UInt8 :=
 (l[i]?).elim [] fun t=>if emptyB sh l i then inT ((up sh i).length+1)++((headT t++[59])++[10]) else inT ((up sh i).length+1)++((headT t++[32,123])++[10])++insT ((up sh i).length+2) t
def oneT (l:List Ts) (i j:Nat):List UInt8:=if endOf sh j=i+1/\emptyB sh l j=false then inT ((up sh j).length+1)++([125]++[10]) else []
def closT (l:List Ts) (i:Nat):List UInt8:=(sf sh i).flatMap (oneT sh l i)
def stsT (l:List Ts):List UInt8:=(List.range l.length).flatMap fun i=>stT sh l i++closT sh l i
end
def sepT (l:List ByteArray):List UInt8:=Lib.join (l.map fun s=>T s) [44,32]
def evT (l:List ByteArray):List UInt8:=if l=[] then [] else inT 1++(([101,118,101,110,116]++(32::(sepT l++[59])))++[10])
def varT (v:Vr):List UInt8 :=
 inT 1++(([118,97,114]++(32::(T v.s++(32::(ValSpec.text v.lo++(32::([46,46]++(32::(ValSpec.text v.hi++(32::([61]++(32::(ValSpec.text v.ini++[59])))))))))))))++[10])
def putC (c:Tc):List UInt8:=inT 0++(([99,104,97,114,116]++(32::(T c.s++[32,123])))++[10])++(evT c.evs++(c.vars.flatMap varT++(stsT c.sh c.sts++(inT 0++([125]++[10])))))
def intK (n:Int):List Tx:=(if n<0 then [(3,[45])] else [])++[(2,ValSpec.digs n.natAbs)]
def actK (w:List UInt8) (ts:List Ta):List Tx:=if ts=[] then [] else (1,w)::(tkL ts++[(3,[59])])
def insK (t:Ts):List Tx:=actK [101,110,116,101,114] t.en++(actK [101,120,105,116] t.ex++t.tr.flatMap tkT)
def headK (t:Ts):List Tx:=[(1,wordT t.kind),(1,T t.s)]
section
variable (sh:List Sh)
def stK (l:List Ts) (i:Nat):List Tx:=(l[i]?).elim [] fun t=>if emptyB sh l i then headK t++[(3,[59])] else headK t++((3,[123])::insK t)
def oneK (l:List Ts) (i j:Nat):List Tx:=if endOf sh j=i+1/\emptyB sh l j=false then [(3,[125])] else []
def closK (l:List Ts) (i:Nat):List Tx:=(sf sh i).flatMap (oneK sh l i)
end
def sepK:List ByteArray -> List Tx
 | [] => []
 | [s] => [(1,T s)]
 | s :: u :: r => (1,T s) :: (3,[44]) :: sepK (u :: r)
def varK (v:Vr):List Tx:=(1,[118,97,114])::(1,T v.s)::(intK v.lo++((3,[46,46])::(intK v.hi++((3,[61])::(intK v.ini++[(3,[59])])))))
theorem Zd {n:Int} (h:smallV n = true):n.natAbs <= 1000000:=by
 simp only [smallV,Bool.and_eq_true,decide_eq_true_eq] at h;omega
theorem join_two (a b:List UInt8) (r:List (List UInt8)):Lib.join (a :: b :: r) [44,32] = a ++ ([44] ++ (32 :: Lib.join (b :: r) [44,32])):=by
 rw [Lib.join_cons,Lib.join_cons];simp [Lib.joinTail]
end PrintSpec
end
section
namespace PrintSpec
open CurSpec TermSpec EvalSpec NamesSpec ExprSpec ScanSpec ActSpec TransSpec SynSpec
open ShapeSpec (Sh up sf SU)
theorem QN {c d:Cur} (t:To c d) (h:d.bad=0):c.bad=0:=Decidable.byContradiction fun h'=>t.bad h' h
theorem Jv {c:Cur} (h:(nameC c).bad = 0):c.bad = 0 /\ isName (nameS c).data.toList = true:=by
 refine ⟨QN (Ju c) h,?_⟩;unfold nameC at h
 by_cases hn:nameB c=true
 ·unfold nameS
  rw [if_pos hn];simp only [nameB,Bool.and_eq_true,decide_eq_true_eq] at hn;exact hn.2.2
 ·rw [if_neg hn] at h
  exact absurd h (QB c (by decide))
theorem Qie {c:Cur} (h:(numC c 1000).bad = 0):0 <= numN c 1000 /\ numN c 1000 <= 1000:=by
 unfold numC at h
 by_cases hn:numE c 1000=0
 ·have h0:=(QgX (next c).t.data.toList).1
  unfold numN;rw [if_pos hn];unfold numE at hn
  split at hn
  ·split at hn
   ·split at hn
    ·cases hn
    ·omega
   ·rename_i h1
    exact absurd hn h1
  ·cases hn
 ·rw [if_neg hn] at h
  exact absurd h (QB c hn)
theorem QeS {c:Cur} (h:(intR c).1.bad = 0):smallV (intR c).2 = true:=by
 unfold intR at h ⊢;unfold smallV;simp only [Bool.and_eq_true,decide_eq_true_eq]
 by_cases hm:isB c 3 wMin=true
 ·rw [if_pos hm] at h ⊢
  have:=Qie h
  show -1000 <=-numN (on c) 1000 /\-numN (on c) 1000<=1000
  omega
 ·rw [if_neg hm] at h ⊢
  have:=Qie h
  show -1000<=numN c 1000/\numN c 1000<=1000
  omega
theorem QfO {c:Cur} (h:(rdE c).1.bad = 0):chk (rdE c).2 = 0:=by
 unfold rdE readP at h ⊢;dsimp only at h ⊢
 by_cases h0:(S (c.L.length+1) c 1).1.bad=0
 ·rw [if_pos h0] at h ⊢
  by_cases hk:chk (S (c.L.length+1) c 1).2=0
  ·dsimp only
   rw [if_pos hk];exact hk
  ·exact absurd h (QB _ hk)
 ·rw [if_neg h0] at h
  exact absurd h h0
theorem to_rdE (c:Cur):To c (rdE c).1:=⟨(Qgx c).1,(Qgx c).2,fun h=>rdE_ok h⟩
theorem act_good {c:Cur} (h:(oneR c).1.bad = 0):oneA (oneR c).2 = 0:=by
 unfold oneR at h ⊢
 by_cases ha:isB c 1 wAny=true
 ·rw [if_pos ha] at h ⊢
  have:=(Jv h).2;unfold oneA;simp [this]
 ·rw [if_neg ha] at h ⊢
  have h1:=QfO h;have h2:=(Jv (QN (QM _ _ _) (QN (to_rdE _) h))).2;unfold oneA;simp [h1,h2]
theorem Qho:∀ (f:Nat) (c:Cur) (out:List Ac),out.length <= 8 -> (∀ a ∈ out,oneA a = 0) -> (goR f c out).1.bad = 0 -> (goR f c out).2.length <= 8 /\ ∀ a ∈ (goR f c out).2,oneA a = 0
 | 0,c,out,h8,ha,_ => ⟨h8,ha⟩
 | f + 1,c,out,h8,ha,h => by
   have key:(stepR c out).1.bad = 0 -> (stepR c out).2.length <= 8 /\ ∀ a ∈ (stepR c out).2,oneA a = 0:=fun h0 => by
    have h1:=ZN c out;refine ⟨?_,fun a hin=>?_⟩
    ·rw [h1.2.2.2]
     have:out.length≠8:=fun e=>h1.2.2.1 e h0
     omega
    ·rcases List.mem_append.1 hin with hin | hin
     ·exact ha a hin
     ·rw [List.mem_singleton.1 hin]
      exact act_good h0
   unfold goR at h ⊢
   by_cases hb:isB (stepR c out).1 3 wCom=true
   ·rw [if_pos hb] at h ⊢
    obtain ⟨k1,k2⟩:=key (Qv hb (by decide)).1;exact Qho f _ _ k1 k2 h
   ·rw [if_neg hb] at h ⊢
    exact key h
theorem Qdc:∀ {l:List Ac},(∀ a ∈ l,oneA a = 0) -> firstA l = 0
 | [],_ => rfl
 | a :: r,h => by
   rw [firstA,if_pos (h a (by simp))];exact Qdc fun b hb=>h b (by simp [hb])
theorem Qeq (c:Cur):chkA (readA c).2 = 0:=by
 unfold readA
 by_cases h0:(allR c []).1.bad=0
 ·rw [if_pos h0]
  obtain ⟨k1,k2⟩:=Qho (c.L.length+1) c [] (by simp) (by simp) h0;unfold chkA;rw [if_neg (by show ¬ 8<(goR (c.L.length+1) c []).2.length; omega)];exact Qdc k2
 ·rw [if_neg h0]
  rfl
theorem to_guT (c:Cur):To c (guT c).1:=⟨(Qei c).1,(Qei c).2,fun h=>QgV h⟩
theorem to_acT (c:Cur):To c (acT c).1:=⟨(QdY c).1,(QdY c).2,fun h=>QgS h⟩
theorem to_tgT (c:Cur):To c (tgT c).1:=⟨(Qgm c).1,(Qgm c).2,fun h=>tgT_ok h⟩
theorem okN_of {s:ByteArray} (h:isName s.data.toList=true):okN s=true:=by unfold okN; rw [h,Bool.or_true]
theorem QiA {c:Cur} (h:(readT c).1.bad = 0):chkT (readT c).2 = 0:=by
 have h':(seqT c).1.bad=0:=h;unfold readT;dsimp only;rw [if_pos h'];have h4:(tgT (acT (guT (hdT c).1).1).1).1.bad=0:=QN (QM _ _ _) h';have h3:(acT (guT (hdT c).1).1).1.bad=0:=QN (to_tgT _) h4;have h2:(guT (hdT c).1).1.bad=0:=QN (to_acT _) h3;have h1:(hdT c).1.bad=0:=QN (to_guT _) h2
 have e1:okN (hdT c).2 = true:=by
  unfold hdT at h1 ⊢
  by_cases ha:isB c 1 wAuto=true
  ·rw [if_pos ha]; rfl
  ·rw [if_neg ha] at h1 ⊢
   exact okN_of (Jv h1).2
 have e2:okN (tgT (acT (guT (hdT c).1).1).1).2 = true:=by
  unfold tgT at h4 ⊢
  by_cases ha:isB (acT (guT (hdT c).1).1).1 3 wTo=true
  ·rw [if_pos ha] at h4 ⊢
   exact okN_of (Jv h4).2
  ·rw [if_neg ha]; rfl
 have e3:(guT (hdT c).1).2.length ≠ 0 -> chk (guT (hdT c).1).2 = 0:=by
  unfold guT at h2 ⊢
  by_cases ha:isB (hdT c).1 3 wBra=true
  ·rw [if_pos ha] at h2 ⊢
   exact fun _=>QfO (QN (QM _ _ _) h2)
  ·rw [if_neg ha]
   exact fun h0=>absurd rfl h0
 have e4:chkA (acT (guT (hdT c).1).1).2 = 0:=by
  unfold acT at h3 ⊢
  by_cases ha:isB (guT (hdT c).1).1 3 wDo=true
  ·rw [if_pos ha] at h3 ⊢
   exact Qeq _
  ·rw [if_neg ha]; rfl
 unfold seqT chkT;dsimp only;rw [if_neg (by rw [e1,e2]; simp),if_neg (fun hh=>hh.2 (e3 hh.1))];exact e4
theorem Qav {α:Type} {q:Cur -> Bool} {st:Cur -> List α -> Cur × List α} (G:Goes q st) (Q:List α -> Prop) (hs:∀ c out,q c = true -> Q out -> (st c out).1.bad = 0 -> Q (st c out).2) {c:Cur} {out:List α} (h0:c.bad = 0 -> Q out) (h:(loopT q st c out).1.bad = 0):Q (loopT q st c out).2 :=
 Zw (q:=q) (st:=st) (fun d o=>d.bad=0->Q o) (fun d o hq ho hb=>hs d o hq (ho (G.real hq).1) hb) h0 h
theorem ev_good {c:Cur} (h:(evR c).1.bad = 0):(evR c).2.length <= 8 /\ ∀ e ∈ (evR c).2,isName e.data.toList = true:=by
 unfold evR at h ⊢
 by_cases ha:isB c 1 wEvent=true
 ·rw [if_pos ha] at h ⊢
  have h1:(loopT qE stE (nameC (on c)) [nameS (on c)]).1.bad=0:=QN (QM _ _ _) h;have hf:=Zw (q:=qE) (st:=stE) (Few 8) (fun d o hq ho=>few_E hq ho) (c:=nameC (on c)) (out:=[nameS (on c)]) ⟨by simp,fun h9=>by simp at h9⟩;refine ⟨?_,?_⟩
  ·have:=hf.1
   rcases Nat.lt_or_ge (loopT qE stE (nameC (on c)) [nameS (on c)]).2.length 9 with h' | h'
   ·show (loopT qE stE (nameC (on c)) [nameS (on c)]).2.length <= 8
    omega
   ·exact absurd h1 (hf.2 (by omega))
  ·refine Qav Qgz (fun o => ∀ e ∈ o,isName e.data.toList = true) (fun d o _ ho hb e he => ?_) (fun hb e he => ?_) h1
   ·rcases List.mem_append.1 he with he | he
    ·exact ho e he
    ·rw [List.mem_singleton.1 he]
     exact (Jv hb).2
   ·rw [List.mem_singleton.1 he]
    exact (Jv hb).2
 ·rw [if_neg ha]
  exact ⟨by simp,by simp⟩
theorem var_good {c:Cur} (h:(varR c).1.bad = 0):okV (varR c).2 = true:=by
 have h4:=QN (QM _ _ _) (show (want (intR (want (intR (want (intR (nameC (want c 1 wVar))).1 3 wDots)).1 3 wIs)).1 3 wEnd).bad=0 from h);have h3:=QN (QM _ _ _) (QN (Zm _) h4);have h2:=QN (QM _ _ _) (QN (Zm _) h3);have h1:=QN (Zm _) h2;unfold okV varR;simp only [Bool.and_eq_true];exact ⟨(Jv h1).2,QeS h2,QeS h3,QeS h4⟩
theorem va_good {c:Cur} (h:(vaR c).1.bad = 0):(vaR c).2.length <= 4 /\ ∀ v ∈ (vaR c).2,okV v = true:=by
 have hf:=Zw (q:=qV) (st:=SynSpec.stV) (Few 4) (fun d o hq ho=>few_V hq ho) (c:=c) (out:=[]) ⟨by simp,fun h9=>by simp at h9⟩;refine ⟨?_,?_⟩
 ·have:=hf.1
  rcases Nat.lt_or_ge (vaR c).2.length 5 with h' | h'
  ·omega
  ·exact absurd h (hf.2 (by show (vaR c).2.length=5; exact Nat.le_antisymm this h'))
 ·refine Qav QbQ (fun o => ∀ v ∈ o,okV v = true) (fun d o _ ho hb v hv => ?_) (fun _ v hv => by simp at hv) h
  rcases List.mem_append.1 hv with hv | hv
  ·exact ho v hv
  ·rw [List.mem_singleton.1 hv]
   exact var_good hb
theorem QhK {c:Cur} {w:ByteArray}:chkA (acX c w).2 = 0:=by
 unfold acX
 by_cases ha:isB c 1 w=true
 ·rw [if_pos ha]
  exact Qeq _
 ·rw [if_neg ha]; rfl
theorem trX_good {c:Cur} (h:(trX c).1.bad = 0):(trX c).2.length <= 16 /\ ∀ t ∈ (trX c).2,chkT t = 0:=by
 have hf:=Zw (q:=qT) (st:=SynSpec.stT) (Few 16) (fun d o hq ho=>few_T hq ho) (c:=c) (out:=[]) ⟨by simp,fun h9=>by simp at h9⟩;refine ⟨?_,?_⟩
 ·have:=hf.1
  rcases Nat.lt_or_ge (trX c).2.length 17 with h' | h'
  ·omega
  ·exact absurd h (hf.2 (by show (trX c).2.length=17; exact Nat.le_antisymm this h'))
 ·refine Qav Z4 (fun o => ∀ t ∈ o,chkT t = 0) (fun d o _ ho hb t ht => ?_) (fun _ v hv => by simp at hv) h
  rcases List.mem_append.1 ht with ht | ht
  ·exact ho t ht
  ·rw [List.mem_singleton.1 ht]
   exact QiA hb
theorem kd_cases (c:Cur):1 <= (kdR c).2 /\ (kdR c).2 <= 3:=by
 unfold kdR
 split
 ·exact ⟨by simp,by simp⟩
 ·split
  ·exact ⟨by simp,by simp⟩
  ·exact ⟨by simp,by simp⟩
theorem Qhw {c:Cur} {par:Int} (h1:(headR c par).1.bad = 0) (h:(insR (headR c par).1).1.bad = 0):okS (setI (headR c par).2 (insR (headR c par).1).2) = true:=by
 have t1:=trX_good h;have nm:=(Jv (show (nameC (kdR c).1).bad=0 from h1)).2;unfold okS;simp only [Bool.and_eq_true,decide_eq_true_eq,List.all_eq_true];exact ⟨nm,QhK,QhK,t1.1,t1.2⟩
theorem head_good {c:Cur} {par:Int} (h1:(headR c par).1.bad = 0):okS (headR c par).2 = true:=by
 have nm:=(Jv (show (nameC (kdR c).1).bad=0 from h1)).2;unfold okS;simp only [Bool.and_eq_true,decide_eq_true_eq,List.all_eq_true];exact ⟨nm,rfl,rfl,by show (0:Nat)<=16; omega,fun t ht=>absurd ht (by simp [headR])⟩
theorem body_ok {kids:Cur -> Cur × List Sx} (ht:∀ d,To d (kids d).1) (hk:∀ d,(kids d).1.bad = 0 -> ∀ s ∈ (kids d).2,okS s = true) (par:Int) (c:Cur) (h:(bodyS kids par c).1.bad = 0):∀ s ∈ (bodyS kids par c).2,okS s = true:=by
 unfold bodyS at h ⊢
 by_cases h1:isB (headR c par).1 3 wEnd=true
 ·rw [if_pos h1] at h ⊢
  intro s hs;rw [List.mem_singleton.1 hs];exact head_good (QN (Qb1 _) h)
 ·rw [if_neg h1] at h ⊢
  by_cases h2:(headR c par).2.kind=1
  ·rw [if_pos h2] at h ⊢
   intro s hs;rw [List.mem_singleton.1 hs];have h3:=QN (QM _ _ _) h;exact Qhw (QN (Qby _) h3) h3
  ·rw [if_neg h2] at h ⊢
   have h4:=QN (QM _ _ _) h;have h3:=QN (ht _) h4;intro s hs
   rcases List.mem_cons.1 hs with rfl | hs
   ·exact Qhw (QN (Qby _) h3) h3
   ·exact hk _ h4 s hs
theorem Qfd:∀ (k n:Nat) (par:Int) (c:Cur),(stR k n par c).1.bad = 0 -> ∀ s ∈ (stR k n par c).2,okS s = true
 | 0,n,par,c,h => body_ok (fun d => To.refl d) (fun d _ s hs => absurd hs (by simp)) par c h
 | k + 1,n,par,c,h => by
   refine body_ok (fun d=>Qbn (QeF (Z6 k) k n) d []) (fun d hd=>?_) par c h;refine Qav (QcL k n) (fun o=>∀ s∈o,okS s=true) (fun d' o _ ho hb s hs=>?_) (fun _ s hs=>absurd hs (by simp)) hd
   rcases List.mem_append.1 hs with hs | hs
   ·exact ho s hs
   ·exact Qfd k _ _ _ hb s hs
theorem par_app {A B:List Sh} {i:Nat} (h:i<A.length):ShapeSpec.par (A++B) i=ShapeSpec.par A i:=by unfold ShapeSpec.par; rw [List.getElem?_append_left h]
theorem Qch {A B:List Sh} {i:Nat} (h:i<A.length):ShapeSpec.kind (A++B) i=ShapeSpec.kind A i:=by unfold ShapeSpec.kind; rw [List.getElem?_append_left h]
theorem up_app {A B:List Sh}:∀ {i:Nat},i < A.length -> up (A ++ B) i = up A i:=by
 intro i
 induction i using Nat.strongRecOn with
 | ind i ih =>
   intro h;have hp:ShapeSpec.par (A++B) i=ShapeSpec.par A i:=par_app h
   by_cases h0:0<=ShapeSpec.par A i/\ShapeSpec.par A i<i
   ·rw [ShapeSpec.Qef (l:=A++B) (by omega) (by omega),ShapeSpec.Qef h0.1 h0.2,hp,ih _ (by omega) (by omega)]
   ·rw [ShapeSpec.Qdg (l:=A++B) (by rw [hp]; exact h0),ShapeSpec.Qdg h0]
theorem Qf8 {A B:List Sh} {i:Nat} (h:i<A.length):sf (A++B) i=sf A i:=by unfold sf; rw [up_app h]
theorem good_app {A B:List Sh} {i:Nat} (h:i < A.length):ShapeSpec.goodB (A ++ B) i = ShapeSpec.goodB A i:=by
 have hp:ShapeSpec.par (A++B) i=ShapeSpec.par A i:=par_app h;have hk:ShapeSpec.kind (A++B) i=ShapeSpec.kind A i:=Qch h;unfold ShapeSpec.goodB ShapeSpec.hangB;rw [hp,hk]
 by_cases h0:i=0
 ·rw [if_pos h0,if_pos h0]
 ·rw [if_neg h0,if_neg h0,Qf8 (i:=i - 1) (by omega)]
  by_cases h1:0<=ShapeSpec.par A i/\ShapeSpec.par A i<i
  ·rw [Qch (A:=A) (i:=(ShapeSpec.par A i).toNat) (by omega)]
  ·rcases Nat.lt_or_ge 0 0 with h2 | _
   ·omega
   ·by_cases h2:0 <= ShapeSpec.par A i
    ·have h3:¬ ShapeSpec.par A i < i:=fun h3 => h1 ⟨h2,h3⟩
     simp [h3]
    ·simp [h2]
structure Stood (n:Nat) (sh:List Sh):Prop where
 su:SU sh sh.length
 deep:∀ i,i<sh.length->(up sh i).length<=11
 within:∀ i,n<=i->i<sh.length->n∈sf sh i
def HangAt (pre:List Sh) (par:Int) (dep:Nat):Prop :=
 (pre=[]/\par = -1/\dep=0)\/∃ p:Nat,par=p/\p<pre.length/\ShapeSpec.kind pre p≠1/\p∈sf pre (pre.length-1)/\(up pre p).length+1=dep
theorem stood_one {pre:List Sh} {kind par:Int} {dep:Nat} (hs:SU pre pre.length) (hd:∀ i,i < pre.length -> (up pre i).length <= 11) (hh:HangAt pre par dep) (hdep:dep <= 11) (h1:1 <= kind) (h3:kind <= 3) :
 Stood pre.length (pre++[⟨kind,par⟩])/\(up (pre++[⟨kind,par⟩]) pre.length).length=dep:=by
 have hat:(pre++[(⟨kind,par⟩:Sh)])[pre.length]?=some ⟨kind,par⟩:=by simp
 have hk:=ShapeSpec.QdJ hat;have hp:=ShapeSpec.Qf6 hat;have hlen:(pre++[(⟨kind,par⟩:Sh)]).length=pre.length+1:=by simp
 have hup:(up (pre ++ [⟨kind,par⟩]) pre.length).length = dep:=by
  rcases hh with ⟨rfl,hpar,rfl⟩ | ⟨p,hpar,hpl,-,-,hdp⟩
  ·rfl
  ·rw [ShapeSpec.QfE (hp.trans hpar) hpl,Qf8 hpl]
   exact hdp
 have hgood:ShapeSpec.goodB (pre ++ [⟨kind,par⟩]) pre.length = true:=by
  unfold ShapeSpec.goodB ShapeSpec.hangB;rw [hk,hp]
  rcases hh with ⟨rfl,hpar,-⟩ | ⟨p,hpar,hpl,hkp,hin,-⟩
  ·simp [h1,h3,hpar]
  ·have hne:¬ pre.length = 0:=by omega
   have e1:(Int.toNat par)=p:=by omega
   simp only;rw [if_neg hne,e1,Qch hpl,Qf8 (i:=pre.length-1) (by omega)];simp only [Bool.and_eq_true,decide_eq_true_eq];exact ⟨⟨h1,h3⟩,⟨⟨by omega,by omega⟩,hkp⟩,hin⟩
 refine ⟨⟨fun i hi=>?_,fun i hi=>?_,fun i h1 hi=>?_⟩,hup⟩
 ·rw [hlen] at hi
  by_cases e:i=pre.length
  ·rw [e]; exact hgood
  ·rw [good_app (by omega)]
   exact hs i (by omega)
 ·rw [hlen] at hi
  by_cases e:i=pre.length
  ·rw [e,hup]; exact hdep
  ·rw [up_app (by omega)]
   exact hd i (by omega)
 ·rw [hlen] at hi
  obtain rfl:i=pre.length:=by omega
  exact ShapeSpec.Zv _ _
theorem Qct {c:Cur} {e:Int} (h:(fail c e).bad=0):e=0:=Decidable.byContradiction fun he=>absurd h (QB c he)
def Stands (rd:Nat -> Int -> Cur -> Cur × List Sx) (dep:Nat):Prop:=∀ (pre:List Sh) (par:Int) (c:Cur),SU pre pre.length -> (∀ i,i < pre.length -> (up pre i).length <= 11) -> HangAt pre par dep -> (rd pre.length par c).1.bad = 0 ->
 Stood pre.length (pre++(rd pre.length par c).2.map shOf)/\pre.length<(pre++(rd pre.length par c).2.map shOf).length/\ShapeSpec.par (pre++(rd pre.length par c).2.map shOf) pre.length=par
theorem Qjj {kids:Cur -> Cur × List Sx} {dep:Nat} {pre:List Sh} {par:Int} (hs:SU pre pre.length) (hd:∀ i,i < pre.length -> (up pre i).length <= 11) (hh:HangAt pre par dep) (hdep:dep <= 11)
 (hk:∀ (s:Sx) (d:Cur),s.kind≠1->Stood pre.length (pre++[shOf s])->(up (pre++[shOf s]) pre.length).length=dep->(kids d).1.bad=0->Stood pre.length ((pre++[shOf s])++(kids d).2.map shOf)) (c:Cur) (h:(bodyS kids par c).1.bad=0) :
 Stood pre.length (pre++(bodyS kids par c).2.map shOf)/\pre.length<(pre++(bodyS kids par c).2.map shOf).length/\ShapeSpec.par (pre++(bodyS kids par c).2.map shOf) pre.length=par:=by
 obtain ⟨k1,k3⟩:=kd_cases c;have hone:=stood_one hs hd hh hdep k1 k3
 have hp:∀ B:List Sh,ShapeSpec.par (pre ++ ([⟨(kdR c).2,par⟩] ++ B)) pre.length = par:=fun B => by
  unfold ShapeSpec.par;simp
 unfold bodyS at h ⊢
 by_cases h1:isB (headR c par).1 3 wEnd=true
 ·rw [if_pos h1]
  refine ⟨hone.1,by simp,?_⟩;have:=hp [];rw [List.append_nil] at this;exact this
 ·rw [if_neg h1] at h ⊢
  by_cases h2:(headR c par).2.kind=1
  ·rw [if_pos h2]
   refine ⟨hone.1,by simp,?_⟩;have:=hp [];rw [List.append_nil] at this;exact this
  ·rw [if_neg h2] at h ⊢
   have h4:=QN (QM _ _ _) h;have h5:=hk (setI (headR c par).2 (insR (headR c par).1).2) _ h2 hone.1 hone.2 h4;have e:pre++List.map shOf (setI (headR c par).2 (insR (headR c par).1).2::(kids (insR (headR c par).1).1).2)=(pre++[shOf (setI (headR c par).2 (insR (headR c par).1).2)])++(kids (insR (headR c par).1).1).2.map shOf:=by simp
   refine ⟨?_,by simp,hp _⟩
   show Stood pre.length (pre++List.map shOf (setI (headR c par).2 (insR (headR c par).1).2::(kids (insR (headR c par).1).1).2))
   rw [e];exact h5
theorem QbW:∀ (k:Nat),1 <= k -> k <= 12 -> Stands (stR k) (12 - k)
 | 0,h,_ => absurd h (by omega)
 | k + 1,_,hk12 => by
   intro pre par c hs hd hh h;refine Qjj hs hd hh (by omega) (fun s d hk1 hst hup hb=>?_) c h;have hlen:(pre++[shOf s]).length=pre.length+1:=by simp
   have key:(loopT qS (stS (stR k) k pre.length) d []).1.bad = 0 -> Stood pre.length ((pre ++ [shOf s]) ++ (loopT qS (stS (stR k) k pre.length) d []).2.map shOf):=fun hbad => by
    refine Qav (QcL k pre.length) (fun o=>Stood pre.length ((pre++[shOf s])++o.map shOf)) (fun c' o _ ho hb'=>?_) (fun _=>by simpa using hst) hbad;obtain ⟨A,hA⟩:∃ A,A=(pre++[shOf s])++o.map shOf:=⟨_,rfl⟩;rw [<- hA] at ho;have hAl:A.length=pre.length+1+o.length:=by rw [hA]; simp; omega
    have hin:pre.length<(pre++[shOf s]).length:=by omega
    have hb2:(stR k (pre.length+1+o.length) pre.length (fail c' (room (pre.length+1+o.length:Nat) (13-k)))).1.bad=0:=hb';have hroom:=Qct (QN (Z6 _ _ _ _) hb2)
    have hk0:1 <= k:=by
     rcases Nat.eq_zero_or_pos k with rfl | h0
     ·unfold room at hroom
      split at hroom
      ·cases hroom
      ·rw [if_pos (show (12:Int) < 13 - ((0:Nat):Int) by omega)] at hroom
       cases hroom
     ·exact h0
    have hupA:(up A pre.length).length=12-(k+1):=by rw [hA,up_app hin]; exact hup
    have hkA:ShapeSpec.kind A pre.length ≠ 1:=by
     rw [hA,Qch hin];unfold ShapeSpec.kind
     simpa [shOf] using hk1
    rw [<- hAl] at hb2;have ih:=QbW k hk0 (by omega) A (pre.length:Int) _ ho.su ho.deep (.inr ⟨pre.length,rfl,by omega,hkA,ho.within (A.length-1) (by omega) (by omega),by omega⟩) hb2;obtain ⟨i1,i2,i3⟩:=ih;have e:(pre++[shOf s])++(o++(stR k A.length pre.length (fail c' (room (pre.length+1+o.length:Nat) (13-k)))).2).map shOf=A++(stR k A.length pre.length (fail c' (room (pre.length+1+o.length:Nat) (13-k)))).2.map shOf:=by rw [hA]; simp
    show Stood pre.length ((pre++[shOf s])++(o++(stR k (pre.length+1+o.length) pre.length (fail c' (room (pre.length+1+o.length:Nat) (13-k)))).2).map shOf)
    rw [<- hAl] at e ⊢;rw [e];refine ⟨i1.su,i1.deep,fun i h1 h2=>?_⟩
    rcases Nat.lt_or_ge i A.length with hi | hi
    ·rw [Qf8 hi]
     exact ho.within i h1 hi
    ·have h5:=i1.within i hi h2
     refine ShapeSpec.sf_sub h5 ?_;have:up (A++(stR k A.length pre.length (fail c' (room A.length (13-k)))).2.map shOf) A.length=sf (A++(stR k A.length pre.length (fail c' (room A.length (13-k)))).2.map shOf) pre.length:=ShapeSpec.QfE i3 (by omega);exact ShapeSpec.Qde (by rw [this]; exact ShapeSpec.Zv _ _)
   exact key hb
theorem read_may {c:Cur} (h:(readC c).1.bad = 0):mayC (readC c).2 = true:=by
 have h':(seqC c).1.bad=0:=h
 have e:(readC c).2 = (seqC c).2:=by
  unfold readC;dsimp only;rw [if_pos h']
 rw [e];have h5:(stR 12 0 (-1) (vaR (evR (want (nameC (want c 1 wChart)) 3 wOpen)).1).1).1.bad=0:=QN (QM _ _ _) h';have h4:=QN (Z6 _ _ _ _) h5;have h3:=QN (to_vaR _) h4;have h2:=QN (to_evR _) h3;have h1:=QN (QM _ _ _) h2;have nm:=(Jv h1).2;obtain ⟨e1,e2⟩:=ev_good h3;obtain ⟨v1,v2⟩:=va_good h4;have so:=Qfd _ _ _ _ h5;obtain ⟨st,hpos,-⟩:=QbW 12 (by omega) (by omega) [] (-1) (vaR (evR (want (nameC (want c 1 wChart)) 3 wOpen)).1).1 (fun i hi=>absurd hi (by simp)) (fun i hi=>absurd hi (by simp)) (.inl ⟨rfl,rfl,rfl⟩) h5;have hf:=QgQ 12 0 (-1) (vaR (evR (want (nameC (want c 1 wChart)) 3 wOpen)).1).1 ⟨by omega,fun h=>by omega⟩;obtain ⟨L,hL⟩:∃ L,L=(stR 12 0 (-1) (vaR (evR (want (nameC (want c 1 wChart)) 3 wOpen)).1).1).2:=⟨_,rfl⟩
 have h60:L.length <= 60:=by
  have:=hf.1;rw [<- hL] at this
  rcases Nat.lt_or_ge L.length 61 with h' | h'
  ·omega
  ·exact absurd h5 (hf.2 (by rw [<- hL]; omega))
 have hsh:ShapeSpec.chk (L.map shOf) = 0:=by
  have st':Stood 0 (L.map shOf):=by rw [hL]; simpa using st
  have hp':0<(L.map shOf).length:=by rw [hL]; simpa using hpos
  unfold ShapeSpec.chk;rw [if_neg (by rw [List.length_map]; omega),if_neg (by rw [ShapeSpec.Qhb hp' st'.su]; decide),if_neg];simp only [ShapeSpec.deepB,Bool.not_eq_true,List.any_eq_false,List.mem_range,decide_eq_true_eq];intro i hi;have:=st'.deep i hi;omega
 simp only [mayC,Bool.and_eq_true,decide_eq_true_eq,List.all_eq_true];refine ⟨nm,e1,v1,?_,e2,v2,so⟩
 show ShapeSpec.chk ((stR 12 0 (-1) (vaR (evR (want (nameC (want c 1 wChart)) 3 wOpen)).1).1).2.map shOf)=0
 rw [<- hL];exact hsh
end PrintSpec
end
section
namespace KitC
open Go.RowKit
theorem Qh (w:World) (o:Obj):Below w.heap.size w (w.alloc o):=(Below.refl _ _).alloc (Nat.le_refl _) _
theorem Qm (w:World) (o p:Obj):Below w.heap.size w ((w.alloc o).alloc p):=((Below.refl _ _).alloc (Nat.le_refl _) _).alloc (by simp) _
theorem Qz {w w2:World} {o p:Obj} (hb:Below ((w.alloc o).alloc p).heap.size ((w.alloc o).alloc p) w2) :
 w2.heap[w.heap.size]?=some o/\w2.heap[w.heap.size+1]?=some p/\Below w.heap.size w w2/\w.heap.size+1<w2.heap.size:=by
 have hz:=hb.size;simp only [World.size_alloc] at hz;refine ⟨(hb.block _ (by simp; omega)).trans ((heap_alloc_old _ _ (by simp)).trans (heap_alloc_new _ _)),(hb.block _ (by simp)).trans ?_,?_,by omega⟩
 ·have:=heap_alloc_new (w.alloc o) p
  rwa [World.size_alloc] at this
 ·exact (Qm w o p).trans (hb.mono (by simp; omega))
theorem Qy {w w2:World} {o:Obj} (hb:Below (w.alloc o).heap.size (w.alloc o) w2):w2.heap[w.heap.size]? = some o /\ Below w.heap.size w w2 /\ w.heap.size < w2.heap.size:=by
 have hz:=hb.size;simp only [World.size_alloc] at hz;exact ⟨(hb.block _ (by simp)).trans (heap_alloc_new _ _),((Below.refl _ _).alloc (Nat.le_refl _) _).trans (hb.mono (by simp)),by omega⟩
theorem Qe {w w2:World} {b:Nat} {o:Obj} (h:w.heap[b]?=some o) (hb:Below w.heap.size w w2):w2.heap[b]?=some o:=(hb.block b (Array.getElem?_eq_some_iff.1 h).1).trans h
end KitC
end
end Go.Proofs.YtbdalbpackfejaaGreatDoor
