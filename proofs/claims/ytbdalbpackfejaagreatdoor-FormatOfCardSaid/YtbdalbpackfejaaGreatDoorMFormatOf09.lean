/- ScanRefOne, ScanRefToks, ScanProgSpec, ScanFirst, joined. -/
import Derived.Test.YtbdalbpackfejaaGreatDoorMFormatOf08
set_option maxHeartbeats 16000000
set_option maxRecDepth 100000
namespace Go.Proofs.YtbdalbpackfejaaGreatDoor
section
open Go.RowKit ScanSpec Go.BigFrame
set_option maxRecDepth 100000
def oneE (l:List UInt8) (i:Nat):Int × Int × Int:=if (ScanSpec.one (l.drop i)).2.2=0 then ((ScanSpec.one (l.drop i)).1,((i+(ScanSpec.one (l.drop i)).2.1:Nat):Int),0) else (0,0,(ScanSpec.one (l.drop i)).2.2)
theorem Qcr {l:List UInt8} {i:Nat} {x:Int} (h:ScanSpec.one (l.drop i) = (0,0,x)) (hx:x ≠ 0):oneE l i = (0,0,x):=by
 unfold oneE; rw [h,if_neg hx]
theorem Qdz {l:List UInt8} {i n:Nat} {x:Int} (h:ScanSpec.one (l.drop i) = (x,n,0)):oneE l i = (x,((i + n:Nat):Int),0):=by
 unfold oneE; rw [h,if_pos rfl]
theorem QaM {l:List UInt8} {i:Nat} {a b c:Int} (h:oneE l i=(a,b,c)):Ending.returned (.tuple #[.int .i64 a,.int .i64 b,.int .i64 c]) = .returned (.tuple #[.int .i64 (oneE l i).1,.int .i64 (oneE l i).2.1,.int .i64 (oneE l i).2.2]):=by rw [h]
theorem Qin {l:List UInt8} {i:Nat} (h:cls l i = 1):ScanSpec.one (l.drop i) = if 12 < run isWord (l.drop i) then (0,0,5) else (1,run isWord (l.drop i),0):=by
 unfold ScanSpec.one; rw [Qcp,Nat.add_zero,if_pos h]
theorem QgH {l:List UInt8} {i:Nat} (h:cls l i = 2):ScanSpec.one (l.drop i) = if cls l (i + run isNum (l.drop i)) = 1 \/ cls l (i + run isNum (l.drop i)) = 3 then (0,0,2) else if 9 < run isNum (l.drop i) then (0,0,5) else (2,run isNum (l.drop i),0):=by
 unfold ScanSpec.one; rw [Qcp,Nat.add_zero,if_neg (by rw [h]; decide),if_pos h,Qcp]
theorem QeA {l:List UInt8} {i:Nat} (h1:¬ cls l i = 1) (h2:¬ cls l i = 2):ScanSpec.one (l.drop i) = if markLen (l.drop i) = 0 then (0,0,2) else (3,markLen (l.drop i),0):=by
 unfold ScanSpec.one; rw [Qcp,Nat.add_zero,if_neg h1,if_neg h2]
theorem Qhi {α:Type} {p:α -> Bool}:∀ {l:List α} {j:Nat} {x:α},l[j]? = some x -> (∀ y ∈ l.take j,p y = false) -> p x = true -> l.find? p = some x
 | [],_,_,h,_,_ => by simp at h
 | a :: t,0,x,h,_,hx => by
   simp at h; subst h; simp [hx]
 | a :: t,j + 1,x,h,hn,hx => by
   have ha:p a=false:=hn a (by simp);rw [List.find?_cons,ha];exact Qhi (j:=j) (by simpa using h) (fun y hy=>hn y (by simp [hy])) hx
theorem Qg1 {d:List UInt8} {j:Nat} {m:List UInt8} (h:marks[j]? = some m) (hn:∀ y ∈ marks.take j,y.isPrefixOf d = false) (hm:m.isPrefixOf d = true):markLen d = m.length:=by
 unfold markLen; rw [Qhi (p:=fun m=>m.isPrefixOf d) h hn hm]
theorem mark_none {d:List UInt8} (h:∀ y ∈ marks,y.isPrefixOf d = false):markLen d = 0:=by
 unfold markLen;rw [List.find?_eq_none.2 (fun y hy=>by rw [h y hy]; simp)]
theorem marks_len:∀ y∈marks,1<=y.length/\y.length<=2:=by decide
theorem marks_map:marksS.map (·.data.toList)=marks:=by decide
theorem QfU {j:Nat} {m:ByteArray} (h:marksS[j]? = some m):marks[j]? = some m.data.toList:=by
 rw [<- marks_map,List.getElem?_map,h]; rfl
theorem Qi9 {j:Nat} {m:ByteArray} (h:marksS[j]?=some m):1<=m.size/\m.size<=2:=marks_len _ (List.mem_of_getElem? (QfU h))
theorem QiJ (s:ByteArray) (i:Nat) (m:ByteArray):(m.data.toList.isPrefixOf (s.data.toList.drop i) = true) ↔ (i + m.size <= s.size \/ m.size = 0) /\ (s.extract i (i + m.size)) = m:=by
 rw [List.isPrefixOf_iff_prefix]
 have e:(s.extract i (i + m.size)).data.toList = (s.data.toList.drop i).take m.size:=by
  rw [ByteArray.data_extract,Array.toList_extract,List.extract_eq_take_drop]
  congr 1; omega
 constructor
 ·intro h
  have hl:=h.length_le;rw [List.length_drop,Qn,Qn] at hl;refine ⟨by omega,ByteArray.ext (Array.toList_inj.mp ?_)⟩;rw [e,<- Qn m,<- List.prefix_iff_eq_take.1 h]
 ·rintro ⟨_,h⟩
  rw [List.prefix_iff_eq_take,Qn m,<- e,h]
theorem QiB (w:World):Calls Tryz.prog 71 #[] w fun e w' => ∃ v,e = .returned v /\ Rd w' v (strV marksS) /\ Below w.heap.size w w':=by
 go_enter Tryz.func71,Tryz.ntmps71;go_wp2;go_ret;exact ⟨_,rfl,Rd.lit (cs:=(strV marksS).toArray) rfl,(Below.refl _ _).alloc (Nat.le_refl _) _⟩
def RunRel (s:ByteArray) (p:UInt8->Bool) (i E:Nat) (v:Value):Prop:=∃ k:Nat,i<=k/\k<=s.size/\v = .int .i64 k/\k+run p (s.data.toList.drop k)=E
def OnePost (s:ByteArray) (i:Nat) (w:World) (e:Ending) (w':World):Prop :=
 e = .returned (.tuple #[.int .i64 (oneE s.data.toList i).1,.int .i64 (oneE s.data.toList i).2.1,.int .i64 (oneE s.data.toList i).2.2])/\Below w.heap.size w w'
theorem rone_name (s:ByteArray) (i:Nat) (w:World) (hs:s.size <= 9223372036854775807) (hi:i <= s.size) (h1:cls s.data.toList i = 1):Calls Tryz.prog 35 #[.string s,.int .i64 i] w (OnePost s i w):=by
 have HO:=qh (Qin h1);have HC:=qh (fun w=>Qar h1 hs (show i<=9223372036854775807 by omega) w);obtain ⟨E,hE⟩:∃ E,E=i+run isWord (s.data.toList.drop i):=⟨_,rfl⟩;have HE:=qh hE;clear h1 hE;go_enter Tryz.func35,Tryz.ntmps35;go_wp2_with (go_at_call 70; go_fit (HC.o _); rintro e w' ⟨rfl,rfl⟩)
 go_loop [7] (fun v=>RunRel s isWord i E v) (fun v=>s.size-(intOf v).toNat)
 case atStart=>exact ⟨i,Nat.le_refl _,hi,rfl,HE.o.symm⟩
 case round =>
  obtain ⟨k,hik,hk,rfl,hrun⟩:=hrel;have HR:=qh hrun;clear hrun;obtain ⟨g,hg⟩:∃ g,g=cls s.data.toList k:=⟨_,rfl⟩;have HG:=qh (fun w=>Qar hg.symm hs (show k<=9223372036854775807 by omega) w);have HGl:=qh hg;clear hg
  by_cases hgo:1<=g/\g<=3
  ·obtain ⟨g1,g3⟩:=hgo
   have HN:Hid (RunRel s isWord i E (.int .i64 ((k:Int) + 1)) /\ k < s.size):=qh (by
    obtain ⟨c,hc,hw⟩:=Qd9 (show 1<=cls s.data.toList k by rw [<- HGl.o]; exact g1) (by rw [<- HGl.o]; exact g3);have hlt:=Ja hc;rw [Qn] at hlt;exact ⟨⟨k+1,by omega,by omega,by simp,(Qcd hc hw).trans HR.o⟩,hlt⟩)
   have hkl:=HN.o.2;go_wp2_with (go_at_call 70; go_fit (HG.o _); rintro e w' ⟨rfl,rfl⟩)
   go_round
   case rel=>exact HN.o.1
   case measure=>have:=HN.o.2; simp [intOf]; omega
  ·have hkE:Hid (k = E):=qh (by
    have:=Qag (isWord_no (l:=s.data.toList) (i:=k) (by rw [<- HGl.o]; exact hgo));have:=HR.o;omega)
   by_cases hb:12<(k:Int)-(i:Int)
   ·have HV:Hid (oneE s.data.toList i = (0,0,5)):=qh (Qcr (HO.o.trans (if_pos (by have:=hkE.o; have:=HE.o; omega))) (by decide))
    by_cases g1:1<=g
    all_goals
     (first | (have g3:3<g:=by omega) | skip)
     clear hgo;go_wp2_with (go_at_call 70; go_fit (HG.o _); rintro e w' ⟨rfl,rfl⟩)
     go_ret3
     exact ⟨QaM HV.o,Below.refl _ _⟩
   ·have HV:Hid (oneE s.data.toList i = (1,(k:Int),0)):=qh (by
     have:=hkE.o; have:=HE.o;rw [Qdz (HO.o.trans (if_neg (by omega))),show i+run isWord (s.data.toList.drop i)=k by omega])
    by_cases g1:1<=g
    all_goals
     (first | (have g3:3<g:=by omega) | skip)
     clear hgo;go_wp2_with (go_at_call 70; go_fit (HG.o _); rintro e w' ⟨rfl,rfl⟩)
     go_ret3
     exact ⟨QaM HV.o,Below.refl _ _⟩
theorem rone_num (s:ByteArray) (i:Nat) (w:World) (hs:s.size <= 9223372036854775807) (hi:i <= s.size) (h1:cls s.data.toList i = 2):Calls Tryz.prog 35 #[.string s,.int .i64 i] w (OnePost s i w):=by
 have HO:=qh (QgH h1);have HC:=qh (fun w=>Qar h1 hs (show i<=9223372036854775807 by omega) w);obtain ⟨E,hE⟩:∃ E,E=i+run isNum (s.data.toList.drop i):=⟨_,rfl⟩;have HE:=qh hE;clear h1 hE;go_enter Tryz.func35,Tryz.ntmps35;go_wp2_with (go_at_call 70; go_fit (HC.o _); rintro e w' ⟨rfl,rfl⟩)
 go_loop [7] (fun v=>RunRel s isNum i E v) (fun v=>s.size-(intOf v).toNat)
 case atStart=>exact ⟨i,Nat.le_refl _,hi,rfl,HE.o.symm⟩
 case round =>
  obtain ⟨k,hik,hk,rfl,hrun⟩:=hrel;have HR:=qh hrun;clear hrun;obtain ⟨g,hg⟩:∃ g,g=cls s.data.toList k:=⟨_,rfl⟩;have HG:=qh (fun w=>Qar hg.symm hs (show k<=9223372036854775807 by omega) w);have HGl:=qh hg;clear hg
  by_cases hgo:g=2
  ·have HN:Hid (RunRel s isNum i E (.int .i64 ((k:Int) + 1)) /\ k < s.size):=qh (by
    obtain ⟨c,hc,hw⟩:=isNum_cls (show cls s.data.toList k=2 by rw [<- HGl.o]; exact hgo);have hlt:=Ja hc;rw [Qn] at hlt;exact ⟨⟨k+1,by omega,by omega,by simp,(Qcd hc hw).trans HR.o⟩,hlt⟩)
   have hkl:=HN.o.2;subst hgo;go_wp2_with (go_at_call 70; go_fit (HG.o _); rintro e w' ⟨rfl,rfl⟩)
   go_round
   case rel=>exact HN.o.1
   case measure=>simp [intOf]; omega
  ·have hkE:Hid (k = E):=qh (by
    have:=Qag (isNum_no (l:=s.data.toList) (i:=k) (by rw [<- HGl.o]; exact hgo));have:=HR.o;omega)
   have HK:Hid (i+run isNum (s.data.toList.drop i)=k):=qh (by have:=hkE.o; have:=HE.o; omega);have e2:(g==2)=false:=by simpa using hgo
   clear hgo
   by_cases hw:g=1\/g=3
   ·have HV:Hid (oneE s.data.toList i = (0,0,2)):=qh (Qcr (HO.o.trans (if_pos (by rw [HK.o,<- HGl.o]; exact hw))) (by decide))
    rcases hw with rfl | rfl
    all_goals
     go_wp2_with (go_at_call 70; go_fit (HG.o _); rintro e w' ⟨rfl,rfl⟩)
     go_ret3
     exact ⟨QaM HV.o,Below.refl _ _⟩
   ·have e1:(g == 1) = false:=by simp; omega
    have e3:(g==3)=false:=by simp; omega
    by_cases hb:9<(k:Int)-(i:Int)
    ·have HV:Hid (oneE s.data.toList i = (0,0,5)):=qh (Qcr (HO.o.trans ((if_neg (by rw [HK.o,<- HGl.o]; exact hw)).trans (if_pos (by have:=HK.o; omega)))) (by decide))
     clear hw;go_wp2_with (go_at_call 70; go_fit (HG.o _); rintro e w' ⟨rfl,rfl⟩)
     go_ret3
     exact ⟨QaM HV.o,Below.refl _ _⟩
    ·have HV:Hid (oneE s.data.toList i = (2,(k:Int),0)):=qh (by
      rw [Qdz (HO.o.trans ((if_neg (by rw [HK.o,<- HGl.o]; exact hw)).trans (if_neg (by have:=HK.o; omega)))),HK.o])
     clear hw;go_wp2_with (go_at_call 70; go_fit (HG.o _); rintro e w' ⟨rfl,rfl⟩)
     go_ret3
     exact ⟨QaM HV.o,Below.refl _ _⟩
def MarkRel (W:World) (d:List UInt8) (v:Value) (w:World):Prop:=∃ j:Nat,j<=22/\v = .int .i64 j/\(∀ y∈marks.take j,y.isPrefixOf d=false)/\Below W.heap.size W w
theorem rone_mark (s:ByteArray) (i:Nat) (w:World) (hs:s.size <= 9223372036854775800) (hi:i <= s.size) (h1:¬ cls s.data.toList i = 1) (h2:¬ cls s.data.toList i = 2):Calls Tryz.prog 35 #[.string s,.int .i64 i] w (OnePost s i w):=by
 have HO:=qh (QeA h1 h2);obtain ⟨g,hg⟩:∃ g,g=cls s.data.toList i:=⟨_,rfl⟩;have HC:=qh (fun w=>Qar hg.symm (show s.size<=9223372036854775807 by omega) (show i<=9223372036854775807 by omega) w);have e1:(g==1)=false:=by rw [hg]; simpa using h1
 have e2:(g==2)=false:=by rw [hg]; simpa using h2
 clear hg h1 h2;go_enter Tryz.func35,Tryz.ntmps35
 go_wp2_with (first
  | (go_at_call 70; go_fit (HC.o _); rintro e w' ⟨rfl,rfl⟩)
  | (go_at_call 71; refine (QiB _).mono ?_))
 rintro e w1 ⟨v,rfl,hrd,hb1⟩;obtain ⟨A,n,c,rfl,hn,hc,hA⟩:=hrd.strs;have hn22:n=22:=by rw [<- hn]; decide
 subst hn22;obtain ⟨b,off,rfl,hbl,hcell⟩:=hA (by omega);have HCell:=qh hcell;clear hrd hn hA hcell;go_wp2_with fail
 go_loopw [9] (fun v wr=>MarkRel w1 (s.data.toList.drop i) v wr) (fun v _=>22-(intOf v).toNat)
 case atStart=>exact ⟨0,Nat.zero_le _,rfl,by simp,Below.refl _ _⟩
 case round =>
  obtain ⟨j,hj,rfl,hno,hbw⟩:=hrel
  by_cases hlt:j<22
  ·obtain ⟨m,hm⟩:∃ m,marksS[j]? = some m:=Qp (by exact hlt)
   have hck:wr.cell? ⟨b,off+j,none⟩=some (.string m):=(hbw.cell (by exact hbl)).trans (HCell.o j m hm);obtain ⟨m1,m2⟩:=Qi9 hm;have hltI:(j:Int)<22:=by omega
   have hpf:=QiJ s i m;have HM:=qh (QfU hm);have HNo:=qh hno;have HB:=qh hbw;clear hm hno hbw;have hs2:s.size<=9223372036854775807:=by omega
   by_cases hfit:i+m.size<=s.size
   ·have hfI:(i:Int) + (m.size:Int) <= (s.size:Int):=by omega
    have hiz:(i:Int)<=(i:Int)+(m.size:Int):=by omega
    rcases hx:((s.extract i (i+m.size)).toList==m.toList) with _ | _
    ·have HN:Hid (MarkRel w1 (s.data.toList.drop i) (.int .i64 ((j:Int) + 1)) wr):=qh ⟨j + 1,hlt,by simp,fun y hy => by
      rw [QA HM.o,List.mem_append,List.mem_singleton] at hy
      rcases hy with hy | hy
      ·exact HNo.o y hy
      ·rw [hy,<- Bool.not_eq_true]
       intro h;exact Qii hx (hpf.1 h).2,HB.o⟩
     have HN2:Hid (∀ q,MarkRel w1 (s.data.toList.drop i) (.int .i64 ((j:Int) + 1)) (wr.drewN q)):=qh (fun q => by
      obtain ⟨a,b,c,d,e⟩:=HN.o;exact ⟨a,b,c,d,below_drewN e q⟩)
     have hw1:IntKind.i64.wrap ((i:Int)+(m.size:Int))=(i:Int)+(m.size:Int):=IntWalk.i64_in _ (by omega);have hw2:0<=(i:Int)+(m.size:Int):=by omega
     have hw3:((i:Int)+(m.size:Int)).toNat=i+m.size:=by omega
     clear hpf;go_wp2_with fail;go_big_quiet (fail);clear hw1 hw2 hw3;go_wp2_with fail
     go_roundw
     case rel=>exact HN2.o _
     case measure=>simp [intOf]; omega
    ·have hpre:m.data.toList.isPrefixOf (s.data.toList.drop i) = true:=hpf.2 ⟨.inl hfit,ZB hx⟩
     have HV:Hid (oneE s.data.toList i = (3,(i:Int) + (m.size:Int),0)):=qh (by
      have hml:=Qg1 HM.o HNo.o hpre;have hml':markLen (s.data.toList.drop i)=m.size:=hml;rw [Qdz (HO.o.trans (if_neg (by rw [hml']; omega))),hml']; simp)
     have hw1:IntKind.i64.wrap ((i:Int)+(m.size:Int))=(i:Int)+(m.size:Int):=IntWalk.i64_in _ (by omega);have hw2:0<=(i:Int)+(m.size:Int):=by omega
     have hw3:((i:Int)+(m.size:Int)).toNat=i+m.size:=by omega
     clear hpf hpre;go_wp2_with fail;go_big_quiet (fail);clear hw1 hw2 hw3;go_wp2_with fail
     go_ret3
     exact ⟨QaM HV.o,Qa hb1 (below_drewN HB.o _)⟩
   ·have HN:Hid (MarkRel w1 (s.data.toList.drop i) (.int .i64 ((j:Int) + 1)) wr):=qh ⟨j + 1,hlt,by simp,fun y hy => by
     rw [QA HM.o,List.mem_append,List.mem_singleton] at hy
     rcases hy with hy | hy
     ·exact HNo.o y hy
     ·rw [hy,<- Bool.not_eq_true]
      intro h
      rcases (hpf.1 h).1 with h' | h'
      ·exact hfit h'
      ·omega,HB.o⟩
    have HN2:Hid (∀ q,MarkRel w1 (s.data.toList.drop i) (.int .i64 ((j:Int) + 1)) (wr.drewN q)):=qh (fun q => by
     obtain ⟨a,b,c,d,e⟩:=HN.o;exact ⟨a,b,c,d,below_drewN e q⟩)
    have hd:decide ((i:Int)+(m.size:Int)<=(s.size:Int))=false:=decide_eq_false (by omega);have hw1:IntKind.i64.wrap ((i:Int)+(m.size:Int))=(i:Int)+(m.size:Int):=IntWalk.i64_in _ (by omega);clear hpf hfit;go_wp2_with fail;go_big_quiet (fail);clear hw1;go_wp2_with fail
    go_roundw
    case rel=>exact HN2.o _
    case measure=>simp [intOf]; omega
  ·have HV:Hid (oneE s.data.toList i = (0,0,2)):=qh (Qcr (HO.o.trans (if_pos (mark_none (by
    have:j=22:=by omega
    rw [this,List.take_of_length_le (by decide)] at hno; exact hno)))) (by decide))
   clear hno;go_wp2_with fail
   go_ret3
   exact ⟨QaM HV.o,Qa hb1 hbw⟩
theorem Qim (s:ByteArray) (i:Nat) (w:World) (hs:s.size <= 9223372036854775800) (hi:i <= s.size):Calls Tryz.prog 35 #[.string s,.int .i64 i] w (OnePost s i w):=by
 by_cases h1:cls s.data.toList i=1
 ·exact rone_name s i w (by omega) hi h1
 ·by_cases h2:cls s.data.toList i = 2
  ·exact rone_num s i w (by omega) hi h2
  ·exact rone_mark s i w hs hi h1 h2
end
section
open Go.RowKit ScanSpec
set_option maxRecDepth 100000
theorem Qil:(Tryz.prog.info? 76).map (fun i=>(i.zero,i.size,i.bytes))=some (some (.agg #[.int .i64 0,.string ByteArray.empty,.int .i64 0,.int .i64 0]),4,40):=by kernel_rfl
def tokV (s:ByteArray) (t:Tok):List Value:=[.int .i64 t.kind,.string (s.extract t.at_ (t.at_+t.len)),.int .i64 (pos s.data.toList t.at_).1,.int .i64 (pos s.data.toList t.at_).2]
def toksV (s:ByteArray) (l:List Tok):List Value:=l.flatMap (tokV s)
def tokC (s:ByteArray) (kd:Int) (i k:Nat):List Value:=[.int .i64 kd,.string (s.extract i k),.int .i64 (pos s.data.toList i).1,.int .i64 (pos s.data.toList i).2]
theorem tokC_one (s:ByteArray) (kd:Int) (i k:Nat):∀ u∈tokC s kd i k,u.oneCell'=true:=by simp [tokC,Value.oneCell']
theorem tokC_eq {s:ByteArray} {kd:Int} {i ln k:Nat} (h:k=i+ln):tokC s kd i k=tokV s ⟨kd,i,ln⟩:=by subst h; rfl
theorem QbJ (s:ByteArray) (l:List Tok) (t:Tok):toksV s l++tokV s t=toksV s (l++[t]):=by simp [toksV]
def scanT (l:List UInt8):List Tok × Nat × Int:=if 65536<l.length then ([],0,5) else scan l
theorem one_bd (d:List UInt8) (hd:0 < d.length):((ScanSpec.one d).2.2 = 0 -> 1 <= (ScanSpec.one d).2.1 /\ (ScanSpec.one d).2.1 <= d.length) /\ ((ScanSpec.one d).2.2 = 0 \/ (ScanSpec.one d).2.2 = 2 \/ (ScanSpec.one d).2.2 = 5) /\ (0 <= (ScanSpec.one d).1 /\ (ScanSpec.one d).1 <= 3):=by
 obtain ⟨c,hc⟩:∃ c,d[0]?=some c:=Qp hd;have hd0:d.drop 0=d:=rfl
 have hml:markLen d <= d.length:=by
  unfold markLen
  cases hf:marks.find? fun m=>m.isPrefixOf d with
  | none => simp
  | some m =>
    have:=List.find?_some hf;rw [List.isPrefixOf_iff_prefix] at this;exact this.length_le
 unfold ScanSpec.one
 split
 ·rename_i h1
  have hp:0 < run isWord d:=by
   have:=Qgt (p:=isWord) (l:=d) (i:=0) hc (by rw [Jy hc] at h1; simp [isWord,h1])
   rwa [hd0] at this
  have:=Qc0 isWord d
  split<;>simp<;>omega
 ·split
  ·rename_i h1 h2
   have hp:0 < run isNum d:=by
    have:=Qgt (p:=isNum) (l:=d) (i:=0) hc (by rw [Jy hc] at h2; simp [isNum,h2])
    rwa [hd0] at this
   have:=Qc0 isNum d
   split
   ·simp
   ·split<;>simp<;>omega
  ·split<;>simp<;>omega
theorem Qjs {l:List UInt8} {f i:Nat} {acc:List Tok} (h:l.length <= i):scanGo l f i acc = (acc ++ [⟨0,i,0⟩],0,0):=by
 cases f with
 | zero => rfl
 | succ f => rw [scanGo,if_pos h]
theorem QeL {l:List UInt8} {f i:Nat} {acc:List Tok} (h:i < l.length) (he:(ScanSpec.one (l.drop i)).2.2 ≠ 0):scanGo l (f + 1) i acc = ([],i,(ScanSpec.one (l.drop i)).2.2):=by
 rw [scanGo,if_neg (by omega)];simp only [if_pos he]
theorem Qdk {l:List UInt8} {f i:Nat} {acc:List Tok} (h:i < l.length) (he:(ScanSpec.one (l.drop i)).2.2 = 0) (hf:acc.length = 4000):scanGo l (f + 1) i acc = ([],i,8):=by
 rw [scanGo,if_neg (by omega)];simp [he,hf]
theorem Qdl {l:List UInt8} {f i:Nat} {acc:List Tok} (h:i < l.length) (he:(ScanSpec.one (l.drop i)).2.2 = 0) (hf:acc.length ≠ 4000) :
 scanGo l (f+1) i acc=scanGo l f (gap l (i+(ScanSpec.one (l.drop i)).2.1)) (acc++[⟨(ScanSpec.one (l.drop i)).1,i,(ScanSpec.one (l.drop i)).2.1⟩]):=by
 rw [scanGo,if_neg (by omega)];simp [he,hf]
def TokPost (W:World) (s:ByteArray) (e:Ending) (w':World):Prop :=
 Below W.heap.size W w' /\
 ((scanT s.data.toList).2.2≠0->e = .returned (.tuple #[.slice none 0 0,.agg #[.int .i64 (pos s.data.toList (scanT s.data.toList).2.1).1,.int .i64 (pos s.data.toList (scanT s.data.toList).2.1).2],.int .i64 (scanT s.data.toList).2.2])) /\
 ((scanT s.data.toList).2.2=0->∃ v,e = .returned (.tuple #[v,.agg #[.int .i64 0,.int .i64 0],.int .i64 0])/\Rdk 4 w' v (scanT s.data.toList).1.length (toksV s (scanT s.data.toList).1))
theorem one_ok {s:ByteArray} {i ln k2:Nat} {kd:Int} (h:ScanSpec.one (s.data.toList.drop i) = (kd,ln,0)) (hk:k2 = i + ln) (hs:s.size <= 9223372036854775800) (hi:i <= s.size) (w:World) :
 Calls Tryz.prog 35 #[.string s,.int .i64 i] w fun e w'=>e = .returned (.tuple #[.int .i64 kd,.int .i64 (k2:Int),.int .i64 0])/\Below w.heap.size w w':=by
 subst hk;refine (Qim s i w hs hi).mono fun e w' ⟨he,hb⟩=>⟨?_,hb⟩
 rw [he,Qdz h]
theorem one_bad {s:ByteArray} {i:Nat} {er:Int} (h:(ScanSpec.one (s.data.toList.drop i)).2.2 = er) (hne:er ≠ 0) (hs:s.size <= 9223372036854775800) (hi:i <= s.size) (w:World) :
 Calls Tryz.prog 35 #[.string s,.int .i64 i] w fun e w'=>e = .returned (.tuple #[.int .i64 0,.int .i64 0,.int .i64 er])/\Below w.heap.size w w':=by
 refine (Qim s i w hs hi).mono fun e w' ⟨he,hb⟩=>⟨?_,hb⟩
 rw [he];unfold oneE;rw [if_neg (by rw [h]; exact hne),h]
theorem Qga {W w':World} {s:ByteArray} {i:Nat} {er:Int} (hb:Below W.heap.size W w') (h:scanT s.data.toList = ([],i,er)) (hne:er ≠ 0) :
 TokPost W s (.returned (.tuple #[.slice none 0 0,.agg #[.int .i64 (pos s.data.toList i).1,.int .i64 (pos s.data.toList i).2],.int .i64 er])) w' :=
 ⟨hb,fun _=>by rw [h],fun h'=>by rw [h] at h'; exact absurd h' hne⟩
def TokRel (W:World) (s:ByteArray) (ov iv:Value) (wr:World):Prop :=
 ∃ (i f g cap n:Nat) (acc:List Tok),iv = .int .i64 i /\ i <= s.size /\ ov = .slice (some ⟨g,0,none⟩) n cap /\ acc.length = n /\ wr.ownsRow (W.heap.size + 1) 76 4 (.slice (some ⟨g,0,none⟩) n cap) n (toksV s acc) /\
   scanGo s.data.toList f i acc=scan s.data.toList/\s.size<=i+f/\n<=4000/\wr.heap[W.heap.size]?=some (.cells #[.int .i64 0,.int .i64 0] 24 (0,0))/\Below W.heap.size W wr/\W.heap.size+1<=wr.heap.size
theorem tok_start {w:World} {s:ByteArray} (h:gap s.data.toList 0 <= s.data.toList.length):TokRel w s (.slice (some ⟨w.heap.size + 1,0,none⟩) 0 0) (.int .i64 (gap s.data.toList 0))
 ((w.alloc (.cells #[.int .i64 0,.int .i64 0] 24)).alloc (.cells #[] 76)):=by
 have e:=World.size_alloc w (.cells #[.int .i64 0,.int .i64 0] 24);have ho:=World.ownsRow_lit (base:=w.heap.size+1) (e:=76) (size:=4) (w.alloc (.cells #[.int .i64 0,.int .i64 0] 24)) #[] 0 (by rw [e]; exact Nat.le_refl _) (Nat.zero_le _) rfl;rw [e] at ho;refine ⟨gap s.data.toList 0,s.data.toList.length,w.heap.size+1,0,0,[],rfl,h,rfl,rfl,ho,rfl,by rw [Qn]; omega,by omega,(heap_alloc_old _ _ (by simp)).trans (heap_alloc_new _ _),((Below.refl _ _).alloc (Nat.le_refl _) _).alloc (by simp) _,by simp⟩
theorem tok_next {W w2 w3 w4:World} {s:ByteArray} {i ln k2 f n g cap gg cap4:Nat} {kd:Int} {acc:List Tok} {o:Obj} (_hS:scanT s.data.toList = scan s.data.toList) (hO:ScanSpec.one (s.data.toList.drop i) = (kd,ln,0)) (hK:k2 = i + ln) (hN:acc.length = n)
 (hGo:scanGo s.data.toList (f+1) i acc=scan s.data.toList) (_hi:i<=s.size) (hlt:i<s.size) (hf:s.size<=i+(f+1)) (h4:n<=4000) (hfull:¬ n=4000) (gb1:k2<=gap s.data.toList k2) (gb2:gap s.data.toList k2<=s.size) (hlnb:i<k2)
 (hr2:w2.heap[W.heap.size]?=some (.cells #[.int .i64 0,.int .i64 0] 24 (0,0))) (hb2:Below W.heap.size W w2) (hsz:W.heap.size+1<=w2.heap.size) (hb3:Below w2.heap.size w2 w3)
 (hown3:w3.ownsRow (W.heap.size+1) 76 4 (.slice (some ⟨g,0,none⟩) n cap) n (toksV s acc)) (hg4:(w3.alloc o).grownBy w4 (some g))
 (hown4:w4.ownsRow (W.heap.size+1) 76 4 (.slice (some ⟨gg,0,none⟩) (n+1) cap4) (n+1) (toksV s acc++tokC s kd i k2)) :
 TokRel W s (.slice (some ⟨gg,0,none⟩) (n+1) cap4) (.int .i64 (gap s.data.toList k2)) w4:=by
 have hg:=(hown3.lt g rfl).1;have h3:Below W.heap.size W w3:=hb2.trans (hb3.mono (by omega));have hs3:=hb3.size;have hs4:=hg4.size;rw [World.size_alloc] at hs4;refine ⟨gap s.data.toList k2,f,gg,cap4,n+1,acc++[⟨kd,i,ln⟩],rfl,gb2,rfl,by simp [hN],?_,?_,by omega,by omega,?_,(h3.alloc h3.size o).grown hg4 (by simp; omega) (fun k hk=>by cases hk; omega),by omega⟩
 ·rw [<- QbJ,<- tokC_eq hK]; exact hown4
 ·rw [<- hGo,Qdl (by rw [Qn]; exact hlt) (by rw [hO]) (by rw [hN]; exact hfull),hO,hK]
 ·rw [hg4.block W.heap.size (by simp; omega) (by simp; omega),heap_alloc_old _ _ (by omega),hb3.block _ (by omega),hr2]
def endC (s:ByteArray) (i:Nat):List Value:=[.int .i64 0,.string ByteArray.empty,.int .i64 (pos s.data.toList i).1,.int .i64 (pos s.data.toList i).2]
theorem endC_one (s:ByteArray) (i:Nat):∀ u∈endC s i,u.oneCell'=true:=by simp [endC,Value.oneCell']
theorem endC_eq (s:ByteArray) (i:Nat):endC s i = tokV s ⟨0,i,0⟩:=by
 have e:s.extract i (i + 0) = ByteArray.empty:=by
  apply ByteArray.ext
  simp
 unfold endC tokV;rw [e]
theorem tok_end {W w4:World} {s:ByteArray} {i f n gg cap4:Nat} {acc:List Tok} {u v:Value} (hS:scanT s.data.toList = scan s.data.toList) (hN:acc.length = n) (hGo:scanGo s.data.toList f i acc = scan s.data.toList) (hge:s.size <= i)
 (hown4:w4.ownsRow (W.heap.size+1) 76 4 (.slice (some ⟨gg,0,none⟩) (n+1) cap4) (n+1) (toksV s acc++endC s i)) (hb4:Below W.heap.size W w4) :
 TokPost W s (.returned (.tuple #[.slice (some ⟨gg,0,none⟩) (n+1) cap4,.agg #[.int .i64 0,.int .i64 0],.int .i64 0])) ((w4.setCell ⟨W.heap.size,0,none⟩ u).setCell ⟨W.heap.size,1,none⟩ v):=by
 have e:scanT s.data.toList=(acc++[⟨0,i,0⟩],0,0):=by rw [hS,<- hGo,Qjs (by rw [Qn]; exact hge)]
 refine ⟨(hb4.setCell (Nat.le_refl _) _).setCell (Nat.le_refl _) _,fun h=>by rw [e] at h; exact absurd rfl h,fun _=>⟨_,rfl,?_⟩⟩;rw [e]
 have h5:((w4.setCell ⟨W.heap.size,0,none⟩ u).setCell ⟨W.heap.size,1,none⟩ v).ownsRow (W.heap.size + 1) 76 4 (.slice (some ⟨gg,0,none⟩) (n + 1) cap4) (n + 1) (toksV s acc ++ endC s i) :=
  ownsRow_setCell_below (ownsRow_setCell_below hown4 (by simp) u) (by simp) v
 rw [endC_eq,QbJ] at h5;have hl:(acc++[(⟨0,i,0⟩:Tok)]).length=n+1:=by simp [hN]
 rw [<- hl] at h5;have:=Rdk.own h5
 rwa [hl] at this ⊢
theorem end_block {B:Nat} {w3 w4:World} {o:Obj} {c:Obj} {g n cap:Nat} (h:w3.heap[B]? = some c) (hg:B + 1 <= g) (hgr:(w3.alloc o).grownBy w4 (Value.ownBlock (.slice (some ⟨g,0,none⟩) n cap))):w4.heap[B]? = some c:=by
 have hlt:=(Array.getElem?_eq_some_iff.1 h).1;rw [hgr.block B (by simp; omega) (by simp [Value.ownBlock]; omega),heap_alloc_old _ _ hlt,h]
theorem Qfz (s:ByteArray) (w:World):Calls Tryz.prog 13 #[.string s] w (TokPost w s):=by
 obtain ⟨i0,hi,hz0,hz1,hz2⟩:=info_parts Qil
 by_cases hbig:65536<s.size
 ·have HS:Hid (scanT s.data.toList = ([],0,5)):=qh (if_pos hbig)
  go_enter Tryz.func13,Tryz.ntmps13;go_wp2_with fail;refine bodyPost_ret (v:=.tuple #[.slice none 0 0,.agg #[.int .i64 1,.int .i64 1],.int .i64 5]) (by simp [results,Tryz.results13,go_sem]) rfl ⟨?_,fun _=>by rw [HS.o]; rfl,fun h=>by rw [HS.o] at h; exact absurd h (by decide)⟩;exact (Below.refl _ _).alloc (Nat.le_refl _) _
 ·have hs:s.size <= 9223372036854775800:=by omega
  have HS:Hid (scanT s.data.toList=scan s.data.toList):=qh (if_neg hbig);have HG:=qh (QcM (l:=s.data.toList) (i:=0) (Nat.zero_le _)).2;have HGap:=qh (fun w=>Qh9 s 0 w (by omega) (Nat.zero_le _));go_enter Tryz.func13,Tryz.ntmps13;go_wp2_with (go_at_call 34; refine (HGap.o _).mono ?_; rintro e w' ⟨rfl,rfl⟩)
  go_loopw [5,6] (fun o i wr=>TokRel w s o i wr) (fun _ i _=>s.size-(intOf i).toNat)
  case atStart=>exact tok_start HG.o
  case round =>
   obtain ⟨i,f,g,cap,n,acc,rfl,hi',rfl,hn,hown,hgo,hf,h4,hr,hbw,hsz⟩:=hrel
   by_cases hlt:i<s.size
   ·obtain ⟨o1,o2,o3⟩:=one_bd (s.data.toList.drop i) (by rw [List.length_drop,Qn]; omega)
    obtain ⟨f,rfl⟩:∃ f',f=f'+1:=⟨f-1,by omega⟩;have HOwn:=qh hown;have HPos:=qh (fun w=>Qiy s i w (by omega) hi');have HGo:=qh hgo;have HN:=qh hn;obtain ⟨er,her⟩:∃ er,er=(ScanSpec.one (s.data.toList.drop i)).2.2:=⟨_,rfl⟩
    by_cases he0:er=0
    ·subst he0
     obtain ⟨kd,hkd⟩:∃ kd,kd=(ScanSpec.one (s.data.toList.drop i)).1:=⟨_,rfl⟩;obtain ⟨ln,hln⟩:∃ ln,ln=(ScanSpec.one (s.data.toList.drop i)).2.1:=⟨_,rfl⟩;have hone:ScanSpec.one (s.data.toList.drop i)=(kd,ln,0):=by rw [hkd,hln,her]
     obtain ⟨k2,hk2⟩:∃ k2,k2=i+ln:=⟨_,rfl⟩;have HOne:=qh (fun w=>one_ok hone hk2 hs hi' w);have HK:=qh hk2;have hln1:1<=ln:=by rw [hln]; exact (o1 her.symm).1
     have hln2:i + ln <= s.size:=by
      have:=(o1 her.symm).2;rw [<- hln,List.length_drop,Qn] at this;omega
     have hlnb:i<k2:=by omega
     have hlnc:k2<=s.size:=by omega
     have hI0:(0:Int)<=(i:Int):=by omega
     have hI1:(i:Int)<=(k2:Int):=by omega
     have hI2:(k2:Int)<=(s.size:Int):=by omega
     have HO:=qh hone;clear o1 o2 o3 hkd hln hone her hk2 hln1 hln2
     by_cases hfull:n=4000
     ·have e4:((n:Int) == 4000) = true:=by simp; omega
      have HT:Hid (scanT s.data.toList = ([],i,8)):=qh (by
       rw [HS.o,<- HGo.o,Qdk (by rw [Qn]; exact hlt) (by rw [HO.o]) (by rw [HN.o]; exact hfull)])
      clear hfull hown hgo hn;go_wp2_with (go_at_call 35; refine (HOne.o _).mono ?_);rintro e w2 ⟨rfl,hb2'⟩;have hb2:=hbw.trans (hb2'.mono hbw.size);have hr2:=(hb2'.block w.heap.size (by omega)).trans hr;have hsz2:=hb2'.size;clear hr hbw hb2';go_wp2_with (go_at_call 36; refine (HPos.o _).mono ?_);rintro e w3 ⟨rfl,hb3⟩;have hr3:=(hb3.block w.heap.size (by omega)).trans hr2;have k0:=Qb hr3 (i:=0) rfl;have k1:=Qb hr3 (i:=1) rfl;have f0:=Qf hr3 0;have f1:=Qf hr3 1;have hs3:=(Array.getElem?_eq_some_iff.1 hr3).1;have HR3:=qh hr3;have HB3:=qh (Qa hb2 hb3);clear hr3 hr2 hb3 hb2;go_wp2_with fail;have q0:=fun u=>(Q8 HR3.o u u).1
      have q1:=fun u v=>(Q8 HR3.o u v).2
      refine bodyPost_ret (v:=.tuple #[.slice none 0 0,.agg #[.int .i64 (pos s.data.toList i).1,.int .i64 (pos s.data.toList i).2],.int .i64 8]) (by simp [results,Tryz.results13,go_sem,q0,q1]) rfl ?_;exact Qga ((HB3.o.setCell (Nat.le_refl _) _).setCell (Nat.le_refl _) _) HT.o (by first | decide | omega)
     ·have e4:((n:Int) == 4000) = false:=by simp; omega
      have HGap2:=qh (fun w=>Qh9 s k2 w (by omega) hlnc);obtain ⟨gb1,gb2⟩:=QcM (l:=s.data.toList) (i:=k2) hlnc;rw [Qn] at gb2;clear hgo hn;go_wp2_with (go_at_call 35; refine (HOne.o _).mono ?_);rintro e w2 ⟨rfl,hb2'⟩;have hb2:=hbw.trans (hb2'.mono hbw.size);have hr2:=(hb2'.block w.heap.size (by omega)).trans hr;have hsz2:=hb2'.size;have hown2:=Q9 hown hb2';clear hr hbw hb2' hown;go_wp2_with fail
      go_region_held3 (fun w' => True) (trivial)
       ((first
         | (go_at_call 36; refine (HPos.o _).mono ?_; rintro e w3 ⟨rfl,hb3'⟩; have hb3:Below w2.heap.size w2 w3:=⟨hb3'.os,hb3'.tape,hb3'.output,hb3'.size,hb3'.block⟩; clear hb3'; have hown3:=Q9 hown2 hb3)
         | (refine step_append_lies _ (by rfl) _ _ _ (by rfl) (w.heap.size + 1) 76 i0 _ 4 40 Tryz.underlying40 hi hz0 hz1 hz2 rfl (by decide) _ n (toksV s acc) (by rfl) ((hown3.alloc _).drew)
             ⟨w3.heap.size,0,none⟩ 1 1 (tokC s kd i k2) (by rfl) (by rfl) (World.news_of_block (cs:=(tokC s kd i k2).toArray) (t:=76) (fr:=(0,0)) (heap_alloc_new w3 _)) (tokC_one s _ _ _)
             (by decide) (by unfold maxLen; omega) (by omega) (by have:=hb3.size; simp; omega) (w3.heap.size+1) (by simp) ?_; intro gg cap4 w4 hown4 hgrow4 hat4 hlt4)))
      have hg4:(w3.alloc (.cells (tokC s kd i k2).toArray 76)).grownBy w4 (some g):=⟨hgrow4.os,hgrow4.tape,hgrow4.output,hgrow4.size,hgrow4.block⟩;have HEnd:=qh (tok_next HS.o HO.o HK.o HN.o HGo.o hi' hlt hf h4 hfull gb1 gb2 hlnb hr2 hb2 (by omega) hb3 hown3 hg4 hown4);clear hgrow4 hg4 hown4 hown3 hb3 hr2 hb2 hown2;go_wp2_with (go_at_call 34; refine (HGap2.o _).mono ?_; rintro e w' ⟨rfl,rfl⟩)
      go_roundw
      case rel=>exact HEnd.o
      case measure=>simp [intOf]; omega
    ·have e1:(er == 0) = false:=by simpa using he0
     have e2:(er != 0)=true:=by simpa using he0
     have HOne:=qh (fun w=>one_bad her.symm he0 hs hi' w)
     have HT:Hid (scanT s.data.toList = ([],i,er)):=qh (by
      rw [HS.o,<- HGo.o,QeL (by rw [Qn]; exact hlt) (by rw [<- her]; exact he0),<- her])
     clear o1 o2 o3 hown hgo hn;go_wp2_with (go_at_call 35; refine (HOne.o _).mono ?_);rintro e w2 ⟨rfl,hb2'⟩;have hb2:=hbw.trans (hb2'.mono hbw.size);have hr2:=(hb2'.block w.heap.size (by omega)).trans hr;have hsz2:=hb2'.size;clear hr hbw hb2' her;go_wp2_with (go_at_call 36; refine (HPos.o _).mono ?_);rintro e w3 ⟨rfl,hb3⟩;have hr3:=(hb3.block w.heap.size (by omega)).trans hr2;have k0:=Qb hr3 (i:=0) rfl;have k1:=Qb hr3 (i:=1) rfl;have f0:=Qf hr3 0;have f1:=Qf hr3 1;have hs3:=(Array.getElem?_eq_some_iff.1 hr3).1;have HR3:=qh hr3;have HB3:=qh (Qa hb2 hb3);clear hr3 hr2 hb3 hb2;go_wp2_with fail;have q0:=fun u=>(Q8 HR3.o u u).1
     have q1:=fun u v=>(Q8 HR3.o u v).2
     refine bodyPost_ret (v:=.tuple #[.slice none 0 0,.agg #[.int .i64 (pos s.data.toList i).1,.int .i64 (pos s.data.toList i).2],.int .i64 er]) (by simp [results,Tryz.results13,go_sem,q0,q1]) rfl ?_;exact Qga ((HB3.o.setCell (Nat.le_refl _) _).setCell (Nat.le_refl _) _) HT.o (by first | decide | omega)
   ·have HPos:=qh (fun w => Qiy s i w (by omega) hi')
    have HGo:=qh hgo;have HN:=qh hn;clear hgo hn;go_wp2_with (go_at_call 36; refine (HPos.o _).mono ?_);rintro e w3 ⟨rfl,hb3⟩;have hown3:=Q9 hown hb3;have hr3:=(hb3.block w.heap.size (by omega)).trans hr;have hB3:=hbw.trans (hb3.mono hbw.size);have hs3:=hb3.size;have hgb:=(hown3.lt g rfl).1;have HR3:=qh hr3;clear hown hb3 hr hbw hr3;go_wp2_with (at_builtin; refine wpList_append_lies _ rfl (.tmp 56) (.tmp 61) _ rfl (w.heap.size+1) 76 i0 _ 4 40 Tryz.underlying40 hi hz0 hz1 hz2 rfl (by decide) _ n (toksV s acc) rfl (hown3.alloc _) ⟨w3.heap.size,0,none⟩ 1 1 (endC s i) rfl rfl (World.news_of_block (cs:=(endC s i).toArray) (t:=76) (fr:=(0,0)) (heap_alloc_new w3 _)) (endC_one s _) (by decide) ?_ ?_ ?_ (w3.heap.size+1) ?_ ?_; (unfold maxLen; omega); omega; (simp; omega); (simp); intro gg cap4 w4 hown4 hgrow4 hat4 hlt4; have hr4:=end_block HR3.o hgb hgrow4; have k0:=Qb hr4 (i:=0) rfl; have k1:=Qb hr4 (i:=1) rfl; have f0:=Qf hr4 0; have f1:=Qf hr4 1; have hs4:=(Array.getElem?_eq_some_iff.1 hr4).1; have HR4:=qh hr4; clear hr4);have q0:=fun u=>(Q8 HR4.o u u).1
    have q1:=fun u v=>(Q8 HR4.o u v).2
    refine bodyPost_ret (v:=.tuple #[.slice (some ⟨gg,0,none⟩) (n+1) cap4,.agg #[.int .i64 0,.int .i64 0],.int .i64 0]) (by simp [results,Tryz.results13,go_sem,q0,q1]) rfl ?_;exact tok_end HS.o HN.o HGo.o (by omega) hown4 ((hB3.alloc hB3.size _).grown hgrow4 (by have:=hB3.size; simp; omega) (fun k hk=>by cases hk; exact Nat.le_trans (Nat.le_succ _) hgb))
theorem Qfg (s:ByteArray) (w:World) (_hs:s.size<=9223372036854775800):Calls Tryz.prog 13 #[.string s] w (TokPost w s):=Qfz s w
end
section
open Go.RowKit ScanSpec
def lowB (n:Int):Bool:=decide (97<=n)&&decide (n<=122)
def digB (n:Int):Bool:=decide (48<=n)&&decide (n<=57)
def wordB (n:Int):Bool:=(lowB n||digB n)||n==95
theorem lowB_yes {n:Int} (h1:97<=n) (h2:n<=122):lowB n=true:=by simp [lowB,h1,h2]
theorem lowB_no {n:Int} (h:¬ (97<=n/\n<=122)):lowB n=false:=by simp [lowB]; omega
theorem digB_yes {n:Int} (h1:48<=n) (h2:n<=57):digB n=true:=by simp [digB,h1,h2]
theorem digB_no {n:Int} (h:¬ (48<=n/\n<=57)):digB n=false:=by simp [digB]; omega
theorem QdA (c:UInt8):wordB (c.toNat:Int) = isWord c:=by
 rcases Qa4 c _ rfl with ⟨h1,h2,hc⟩ | ⟨h1,h2,hc⟩ | ⟨h1,hc⟩ | ⟨h1,hc⟩ | ⟨h1,hc⟩ | ⟨h1,n1,_,_,_,_,_,hc⟩
 all_goals
  unfold isWord wordB lowB digB;rw [hc];rw [Bool.eq_iff_iff];simp;omega
theorem dig_eq (c:UInt8):digB (c.toNat:Int) = isNum c:=by
 rcases Qa4 c _ rfl with ⟨h1,h2,hc⟩ | ⟨h1,h2,hc⟩ | ⟨h1,hc⟩ | ⟨h1,hc⟩ | ⟨h1,hc⟩ | ⟨h1,n1,_,_,_,_,_,hc⟩
 all_goals
  unfold isNum digB;rw [hc];rw [Bool.eq_iff_iff];simp;omega
theorem low_cls {l:List UInt8} {c:UInt8} (h:l[0]? = some c):lowB (c.toNat:Int) = decide (cls l 0 = 1):=by
 rw [Jy h]
 rcases Qa4 c _ rfl with ⟨h1,h2,hc⟩ | ⟨h1,h2,hc⟩ | ⟨h1,hc⟩ | ⟨h1,hc⟩ | ⟨h1,hc⟩ | ⟨h1,n1,_,_,_,_,_,hc⟩
 all_goals
  unfold lowB;rw [hc,Bool.eq_iff_iff];simp;omega
theorem dig_cls {l:List UInt8} {c:UInt8} (h:l[0]? = some c):digB (c.toNat:Int) = decide (cls l 0 = 2):=by
 rw [Jy h,dig_eq]; rfl
theorem num_then {l:List UInt8}:(cls l (run isNum l) = 1 \/ cls l (run isNum l) = 3) ↔ ∃ c,l[run isNum l]? = some c /\ isWord c = true:=by
 have hno:∀ c,l[run isNum l]? = some c -> isNum c = false:=by
  induction l with
  | nil => simp
  | cons a t ih =>
    intro c hc;rw [run] at hc
    split at hc
    ·exact ih c (by simpa using hc)
    ·rename_i h
     simp at hc; subst hc; simpa using h
 constructor
 ·intro h
  have h1:1<=cls l (run isNum l):=by omega
  obtain ⟨c,hc,hw⟩:=Qd9 h1 (by omega);exact ⟨c,hc,hw⟩
 ·rintro ⟨c,hc,hw⟩
  have hn:=hno c hc;rw [Jy hc];simp only [isWord,isNum,Bool.and_eq_true,decide_eq_true_eq,decide_eq_false_iff_not] at hw hn;omega
def singlesL:List UInt8:=[123,125,91,93,40,41,44,59,61,60,62,43,45,42,47]
abbrev singlesS:ByteArray:=⟨#[123,125,91,93,40,41,44,59,61,60,62,43,45,42,47]⟩
theorem Qig:marks=marks.take 7++singlesL.map (fun x=>[x]):=by decide
theorem QdP (b c:UInt8) (l:List UInt8):0 <= Lib.indexByte (b :: l) c ↔ (b = c \/ 0 <= Lib.indexByte l c):=by
 rw [Lib.indexByte];have:=Lib.indexByte_ge l c
 by_cases h:b=c
 ·subst h; simp
 ·have h':(b == c) = false:=by simpa using h
  rw [h'];simp only [Bool.false_eq_true,if_false,h,false_or]
  split
  ·rename_i h1
   simp at h1;omega
  ·rename_i h1
   simp at h1;omega
theorem Qh7 (S:List UInt8) (c:UInt8) (t:List UInt8):((S.map fun x => [x]).find? fun m => m.isPrefixOf (c :: t)) = if 0 <= Lib.indexByte S c then some [c] else none:=by
 induction S with
 | nil => simp [Lib.indexByte]
 | cons b S ih =>
   rw [List.map_cons,List.find?_cons]
   by_cases h:b=c
   ·subst h
    rw [if_pos ((QdP b b S).2 (.inl rfl))];simp [List.isPrefixOf]
   ·have h':(b == c) = false:=by simpa using h
    have e:([b].isPrefixOf (c::t))=false:=by simp [List.isPrefixOf,h']
    rw [e];simp only;rw [ih]
    by_cases h2:0<=Lib.indexByte S c
    ·rw [if_pos h2,if_pos ((QdP b c S).2 (.inr h2))]
    ·rw [if_neg h2,if_neg (fun h3=>((QdP b c S).1 h3).elim h h2)]
theorem Qd7 {c:UInt8} {t:List UInt8} (h:∀ y ∈ marks.take 7,y.isPrefixOf (c :: t) = false):markLen (c :: t) = if 0 <= Lib.indexByte singlesL c then 1 else 0:=by
 unfold markLen;rw [Qig,List.find?_append,List.find?_eq_none.2 (fun y hy=>by rw [h y hy]; simp),Option.none_or,Qh7]
 split
 ·rename_i m hm
  split at hm
  ·rename_i h1
   cases hm
   rw [if_pos h1]; rfl
  ·cases hm
 ·rename_i hm
  split at hm
  ·cases hm
  ·rename_i h1
   rw [if_neg h1]
def notNl (c:UInt8):Bool:=!(c.toNat==10)
theorem QiV (l:List UInt8):(if 0 <= Lib.indexByte l 10 then Lib.indexByte l 10 else (l.length:Int)) = (run notNl l:Int):=by
 induction l with
 | nil => simp [Lib.indexByte,run]
 | cons b t ih =>
   rw [run,Lib.indexByte];have hge:=Lib.indexByte_ge t 10
   by_cases h:b=10
   ·subst h
    simp [notNl]
   ·have h':(b == 10) = false:=by simpa using h
    have hn:b.toNat≠10:=fun e=>h (UInt8.toNat_inj.1 e)
    have hp:notNl b=true:=by simp [notNl,hn]
    rw [h',if_pos hp]
    have e:(if (Lib.indexByte t 10 == -1) = true then (-1:Int) else Lib.indexByte t 10 + 1) = if Lib.indexByte t 10 = -1 then -1 else Lib.indexByte t 10 + 1:=by
     by_cases h1:Lib.indexByte t 10 = -1
     ·rw [if_pos h1,if_pos (by simpa using h1)]
     ·rw [if_neg h1,if_neg (by simpa using h1)]
    simp only [Bool.false_eq_true,if_false,List.length_cons];rw [e]
    by_cases h1:Lib.indexByte t 10 = -1
    ·rw [if_pos h1]
     rw [if_neg (by omega)] at ih;rw [if_neg (by decide)];omega
    ·rw [if_neg h1]
     rw [if_pos (by omega)] at ih;rw [if_pos (by omega)];omega
theorem QcY {p:UInt8 -> Bool} {l:List UInt8}:∀ j,j < run p l -> ∃ c,l[j]? = some c /\ p c = true:=by
 induction l with
 | nil => intro j h; simp [run] at h
 | cons a t ih =>
   intro j h;rw [run] at h
   split at h
   ·rename_i ha
    cases j with
    | zero => exact ⟨a,rfl,ha⟩
    | succ j => exact ih j (by omega)
   ·omega
theorem run_end {p:UInt8 -> Bool} {l:List UInt8} {c:UInt8} (h:l[run p l]? = some c):p c = false:=by
 induction l with
 | nil => simp at h
 | cons a t ih =>
   rw [run] at h
   split at h
   ·exact ih (by simpa using h)
   ·rename_i ha
    simp at h; subst h; simpa using ha
theorem QcX {l:List UInt8} {j:Nat}:∀ n,(∀ k,k < n -> ∃ c,l[j + k]? = some c /\ c.toNat ≠ 10) -> pos l (j + n) = ((pos l j).1,(pos l j).2 + n)
 | 0,_ => by simp
 | n + 1,h => by
   obtain ⟨c,hc,h10⟩:=h n (by omega);rw [<- Nat.add_assoc,Qan hc,if_neg h10,QcX n (fun k hk=>h k (by omega))]
   ext
   ·rfl
   ·simp; omega
theorem rem_run {l:List UInt8} {j:Nat}:∀ n,(∀ k,k < n -> ∃ c,l[j + k]? = some c /\ c.toNat ≠ 10) -> rem l (j + n) = rem l j
 | 0,_ => rfl
 | n + 1,h => by
   obtain ⟨c,hc,h10⟩:=h n (by omega);rw [<- Nat.add_assoc,QhC hc h10,rem_run n (fun k hk=>h k (by omega))]
theorem QbZ {l:List UInt8} {j:Nat}:∀ k,k < run notNl (l.drop j) -> ∃ c,l[j + k]? = some c /\ c.toNat ≠ 10:=by
 intro k hk;obtain ⟨c,hc,hp⟩:=QcY k hk;rw [List.getElem?_drop] at hc;exact ⟨c,hc,by simpa [notNl] using hp⟩
theorem gap_past {l:List UInt8} {j:Nat} (h:cls l j = 5):gap l (j + run notNl (l.drop j)) = gap l j /\ pos l (j + run notNl (l.drop j)) = ((pos l j).1,(pos l j).2 + (run notNl (l.drop j):Nat)):=by
 refine ⟨?_,QcX _ QbZ⟩;have h1:=rem_run _ (QbZ (l:=l) (j:=j));rw [<- Qeb h,<- h1]
 rcases hc:l[j+run notNl (l.drop j)]? with _ | c
 ·exact (rem_end (List.getElem?_eq_none_iff.1 hc)).symm
 ·rw [<- List.getElem?_drop] at hc
  have:=run_end hc;rw [List.getElem?_drop] at hc;exact (Qhe hc (by simpa [notNl] using this)).symm
theorem cls_5_run {l:List UInt8} {j:Nat} (h:cls l j = 5):1 <= run notNl (l.drop j):=by
 unfold cls at h
 split at h
 ·rename_i c hc
  exact Qgt hc (by simp [notNl,clsB_35 h])
 ·simp at h
theorem QiN {l:List UInt8} {j ln:Nat} {kd:Int} (h:ScanSpec.one (l.drop j) = (kd,ln,0)):∀ k,k < ln -> ∃ c,l[j + k]? = some c /\ c.toNat ≠ 10:=by
 intro k hk
 have word:∀ {n:Nat},k < n -> n = run isWord (l.drop j) -> ∃ c,l[j + k]? = some c /\ c.toNat ≠ 10:=by
  intro n hn e;subst e;obtain ⟨c,hc,hp⟩:=QcY k hn;rw [List.getElem?_drop] at hc;refine ⟨c,hc,fun e=>?_⟩;rw [<- QdA,e] at hp;exact absurd hp (by decide)
 have num:∀ {n:Nat},k < n -> n = run isNum (l.drop j) -> ∃ c,l[j + k]? = some c /\ c.toNat ≠ 10:=by
  intro n hn e;subst e;obtain ⟨c,hc,hp⟩:=QcY k hn;rw [List.getElem?_drop] at hc;refine ⟨c,hc,fun e=>?_⟩;rw [<- dig_eq,e] at hp;exact absurd hp (by decide)
 unfold ScanSpec.one at h
 split at h
 ·split at h
  ·cases h
  ·simp only [Prod.mk.injEq] at h
   exact word hk h.2.1.symm
 ·split at h
  ·split at h
   ·cases h
   ·split at h
    ·cases h
    ·simp only [Prod.mk.injEq] at h
     exact num hk h.2.1.symm
  ·split at h
   ·cases h
   ·simp only [Prod.mk.injEq] at h
    obtain ⟨-,h,-⟩:=h;subst h;unfold markLen at hk
    cases hf:marks.find? fun m=>m.isPrefixOf (l.drop j) with
    | none => rw [hf] at hk; simp at hk
    | some m =>
      rw [hf] at hk;have hm:=List.mem_of_find?_eq_some hf;have hp:=List.find?_some hf;rw [List.isPrefixOf_iff_prefix] at hp;obtain ⟨t,ht⟩:=hp
      have hc:l[j + k]? = some m[k]:=by
       rw [<- List.getElem?_drop,<- ht,List.getElem?_append_left hk,List.getElem?_eq_getElem hk]
      have all:∀ y∈marks,∀ x∈y,x.toNat≠10:=by decide
      exact ⟨_,hc,all m hm _ (List.getElem_mem hk)⟩
theorem txt_ne {s:ByteArray} (h:0 < s.size):s.toList.isEmpty = false:=by
 have e:s.toList.length=s.size:=by rw [ByteArray.toList_eq]; rfl
 cases h':s.toList with
 | nil => rw [h'] at e; simp at e; omega
 | cons a l => rfl
theorem extract_drop (s:ByteArray) (j:Nat):(s.extract j s.size).data.toList = s.data.toList.drop j:=by
 rw [ByteArray.data_extract,Array.toList_extract,List.extract_eq_take_drop];rw [List.take_of_length_le];rw [List.length_drop,Qn];exact Nat.le_refl _
theorem extract_extract (s:ByteArray) (j n:Nat):(s.extract j s.size).extract n (s.extract j s.size).size = s.extract (j + n) s.size:=by
 apply ByteArray.ext
 apply Array.toList_inj.mp
 rw [extract_drop,extract_drop,extract_drop,List.drop_drop]
theorem Qf3 (s:ByteArray) (j n:Nat) (_h:j + n <= s.size):(s.extract j s.size).extract 0 n = s.extract j (j + n):=by
 apply ByteArray.ext
 apply Array.toList_inj.mp
 rw [ByteArray.data_extract,Array.toList_extract,List.extract_eq_take_drop,extract_drop,ByteArray.data_extract,Array.toList_extract,List.extract_eq_take_drop,List.drop_zero]
 congr 1
 omega
theorem extract_all (s:ByteArray):s.extract 0 s.size = s:=by
 apply ByteArray.ext
 apply Array.toList_inj.mp
 rw [extract_drop]; rfl
theorem Zl (s:ByteArray) (j:Nat):(s.extract j s.size).size = s.size - j:=by
 rw [<- Qn,extract_drop,List.length_drop,Qn]
end
section
open Go.RowKit ScanSpec
set_option maxRecDepth 100000
theorem QaH (n:Int) (w:World):Calls Tryz.prog 114 #[.int .u8 n] w fun e w' => e = .returned (.bool (lowB n)) /\ w = w':=by
 by_cases h1:97<=n
 ·by_cases h2:n <= 122
  ·have HV:=qh (lowB_yes h1 h2)
   go_enter Tryz.func114,Tryz.ntmps114;go_wp2;go_ret;exact ⟨Qg HV.o.symm,rfl⟩
  ·have HV:=qh (lowB_no (n:=n) (by omega))
   have h2':decide (n<=122)=false:=decide_eq_false h2;clear h2;go_enter Tryz.func114,Tryz.ntmps114;go_wp2;go_ret;exact ⟨Qg HV.o.symm,rfl⟩
 ·have HV:=qh (lowB_no (n:=n) (by omega))
  have h1':decide (97<=n)=false:=decide_eq_false h1;clear h1;go_enter Tryz.func114,Tryz.ntmps114;go_wp2;go_ret;exact ⟨Qg HV.o.symm,rfl⟩
theorem QbB (n:Int) (w:World):Calls Tryz.prog 116 #[.int .u8 n] w fun e w' => e = .returned (.bool (digB n)) /\ w = w':=by
 by_cases h1:48<=n
 ·by_cases h2:n <= 57
  ·have HV:=qh (digB_yes h1 h2)
   go_enter Tryz.func116,Tryz.ntmps116;go_wp2;go_ret;exact ⟨Qg HV.o.symm,rfl⟩
  ·have HV:=qh (digB_no (n:=n) (by omega))
   have h2':decide (n<=57)=false:=decide_eq_false h2;clear h2;go_enter Tryz.func116,Tryz.ntmps116;go_wp2;go_ret;exact ⟨Qg HV.o.symm,rfl⟩
 ·have HV:=qh (digB_no (n:=n) (by omega))
  have h1':decide (48<=n)=false:=decide_eq_false h1;clear h1;go_enter Tryz.func116,Tryz.ntmps116;go_wp2;go_ret;exact ⟨Qg HV.o.symm,rfl⟩
theorem QdN (n:Int) (w:World):Calls Tryz.prog 151 #[.int .u8 n] w fun e w' => e = .returned (.bool (wordB n)) /\ w = w':=by
 have HW:Hid (wordB n=((lowB n||digB n)||n==95)):=qh rfl
 rcases hl:lowB n with _ | _
 ·rcases hd:digB n with _ | _
  ·have HL:=qh (fun w => QaH n w)
   have HD:=qh (fun w=>QbB n w);rw [hl,hd] at HW;rw [hl] at HL;rw [hd] at HD;clear hl hd;go_enter Tryz.func151,Tryz.ntmps151;go_wp2_with (first | (go_at_call 114; refine (HL.o _).mono ?_; rintro e w' ⟨rfl,rfl⟩) | (go_at_call 116; refine (HD.o _).mono ?_; rintro e w' ⟨rfl,rfl⟩));go_ret;exact ⟨Qg (by rw [HW.o]; rfl),rfl⟩
  ·have HL:=qh (fun w => QaH n w)
   have HD:=qh (fun w=>QbB n w);rw [hl,hd] at HW;rw [hl] at HL;rw [hd] at HD;clear hl hd;go_enter Tryz.func151,Tryz.ntmps151;go_wp2_with (first | (go_at_call 114; refine (HL.o _).mono ?_; rintro e w' ⟨rfl,rfl⟩) | (go_at_call 116; refine (HD.o _).mono ?_; rintro e w' ⟨rfl,rfl⟩));go_ret;exact ⟨Qg (by rw [HW.o]; rfl),rfl⟩
 ·have HL:=qh (fun w => QaH n w)
  rw [hl] at HW HL;clear hl;go_enter Tryz.func151,Tryz.ntmps151;go_wp2_with (go_at_call 114; refine (HL.o _).mono ?_; rintro e w' ⟨rfl,rfl⟩);go_ret;exact ⟨Qg (by rw [HW.o]; rfl),rfl⟩
def RunSz (l:List UInt8) (p:UInt8->Bool) (v:Value):Prop:=∃ k:Nat,k<=l.length/\v = .int .i64 k/\k+run p (l.drop k)=run p l
theorem run_word (s:ByteArray) (w:World) (hs:s.size <= 9223372036854775807) :
 Calls Tryz.prog 150 #[.string s,.func (.func 151) #[] #[]] w fun e w'=>e = .returned (.int .i64 (run isWord s.data.toList))/\w=w':=by
 have HF:=qh (fun (c:UInt8) (w:World)=>(by rw [<- QdA]; exact QdN _ w:Calls Tryz.prog 151 #[.int .u8 c.toNat] w fun e w'=>e = .returned (.bool (isWord c))/\w=w'));go_enter Tryz.func150,Tryz.ntmps150;go_wp2
 go_loop [5] (fun v=>RunSz s.data.toList isWord v) (fun v=>s.size-(intOf v).toNat)
 case atStart=>exact ⟨0,Nat.zero_le _,rfl,by simp⟩
 case round =>
  obtain ⟨k,hk,rfl,hr⟩:=hrel;rw [Qn] at hk;have HR:=qh hr;clear hr
  by_cases hlt:k<s.size
  ·have hck:=byte_at' s k hlt
   rcases hp:isWord s[k] with _ | _
   ·have HC:=qh (fun w => HF.o s[k] w)
    rw [hp] at HC
    have HE:Hid ((run isWord s.data.toList:Int) = (k:Int)):=qh (by
     have:=Qag (p:=isWord) (l:=s.data.toList) (i:=k) (fun c hc=>by rw [hck] at hc; cases hc; exact hp);have:=HR.o;omega)
    clear hp hck;go_wp2_with (go_at_call 151; refine (HC.o _).mono ?_; rintro e w' ⟨rfl,rfl⟩);go_ret;exact ⟨Qo HE.o.symm,rfl⟩
   ·have HC:=qh (fun w => HF.o s[k] w)
    rw [hp] at HC;have HN:Hid (RunSz s.data.toList isWord (.int .i64 ((k:Int)+1))):=qh ⟨k+1,by rw [Qn]; omega,by simp,(Qcd hck hp).trans HR.o⟩;clear hp hck;go_wp2_with (go_at_call 151; refine (HC.o _).mono ?_; rintro e w' ⟨rfl,rfl⟩)
    go_round
    case rel=>exact HN.o
    case measure=>simp [intOf]; omega
  ·have HE:Hid ((run isWord s.data.toList:Int) = (k:Int)):=qh (by
    have:=Qag (p:=isWord) (l:=s.data.toList) (i:=k) (fun c hc=>by have:=Ja hc; rw [Qn] at this; omega);have:=HR.o;omega)
   have hd:decide (k<s.size)=false:=decide_eq_false hlt;go_wp2_with fail;go_ret;exact ⟨Qo HE.o.symm,rfl⟩
theorem run_num (s:ByteArray) (w:World) (hs:s.size <= 9223372036854775807) :
 Calls Tryz.prog 150 #[.string s,.func (.func 116) #[] #[]] w fun e w'=>e = .returned (.int .i64 (run isNum s.data.toList))/\w=w':=by
 have HF:=qh (fun (c:UInt8) (w:World)=>(by rw [<- dig_eq]; exact QbB _ w:Calls Tryz.prog 116 #[.int .u8 c.toNat] w fun e w'=>e = .returned (.bool (isNum c))/\w=w'));go_enter Tryz.func150,Tryz.ntmps150;go_wp2
 go_loop [5] (fun v=>RunSz s.data.toList isNum v) (fun v=>s.size-(intOf v).toNat)
 case atStart=>exact ⟨0,Nat.zero_le _,rfl,by simp⟩
 case round =>
  obtain ⟨k,hk,rfl,hr⟩:=hrel;rw [Qn] at hk;have HR:=qh hr;clear hr
  by_cases hlt:k<s.size
  ·have hck:=byte_at' s k hlt
   rcases hp:isNum s[k] with _ | _
   ·have HC:=qh (fun w => HF.o s[k] w)
    rw [hp] at HC
    have HE:Hid ((run isNum s.data.toList:Int) = (k:Int)):=qh (by
     have:=Qag (p:=isNum) (l:=s.data.toList) (i:=k) (fun c hc=>by rw [hck] at hc; cases hc; exact hp);have:=HR.o;omega)
    clear hp hck;go_wp2_with (go_at_call 116; refine (HC.o _).mono ?_; rintro e w' ⟨rfl,rfl⟩);go_ret;exact ⟨Qo HE.o.symm,rfl⟩
   ·have HC:=qh (fun w => HF.o s[k] w)
    rw [hp] at HC;have HN:Hid (RunSz s.data.toList isNum (.int .i64 ((k:Int)+1))):=qh ⟨k+1,by rw [Qn]; omega,by simp,(Qcd hck hp).trans HR.o⟩;clear hp hck;go_wp2_with (go_at_call 116; refine (HC.o _).mono ?_; rintro e w' ⟨rfl,rfl⟩)
    go_round
    case rel=>exact HN.o
    case measure=>simp [intOf]; omega
  ·have HE:Hid ((run isNum s.data.toList:Int) = (k:Int)):=qh (by
    have:=Qag (p:=isNum) (l:=s.data.toList) (i:=k) (fun c hc=>by have:=Ja hc; rw [Qn] at this; omega);have:=HR.o;omega)
   have hd:decide (k<s.size)=false:=decide_eq_false hlt;go_wp2_with fail;go_ret;exact ⟨Qo HE.o.symm,rfl⟩
end
end Go.Proofs.YtbdalbpackfejaaGreatDoor
