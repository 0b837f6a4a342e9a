/- ExprRefPutB, ActRefPut, TransRefPut, PrintState, joined. -/
import Derived.Test.YtbdalbpackfejaaGreatDoorMFormatOf20
set_option maxHeartbeats 16000000
set_option maxRecDepth 100000
namespace Go.Proofs.YtbdalbpackfejaaGreatDoor
section
open Go.RowKit CurSpec TermSpec ExprSpec Go.BigFrame
set_option maxRecDepth 100000
def RsgRel (W:World) (os:List Int) (o:Int) (s:ByteArray) (n:Nat) (p i:Value) (w:World):Prop:=∃ j:Nat,j<=n/\i = .int .i64 j/\p = .string (if o∈os.take j then s else ⟨#[]⟩)/\Below W.heap.size W w
theorem Qf2 {os:List Int} {o u:Int} {j:Nat} {pv st:ByteArray} (hp:pv = if o ∈ os.take j then st else ⟨#[]⟩) (hu:os[j]? = some u) (hn:u ≠ o):(.string pv:Value) = .string (if o ∈ os.take (j + 1) then st else ⟨#[]⟩):=by
 have hm:o ∈ os.take (j + 1) ↔ o ∈ os.take j:=by
  rw [QA hu,List.mem_append,List.mem_singleton];exact ⟨fun h=>h.elim id (fun e=>absurd e.symm hn),.inl⟩
 rw [hp]
 by_cases hx:o∈os.take j
 ·rw [if_pos hx,if_pos (hm.2 hx)]
 ·rw [if_neg hx,if_neg (fun h=>hx (hm.1 h))]
theorem sg_same:∀ s∈sgs,∀ u∈sgs,s.op=u.op->s.t=u.t:=by decide
theorem sig_text {k o:Int} {j:Nat} {s:Sg} (hs:s ∈ sgs) (ho:s.op = o) (h:(sigO k)[j]? = some o):(sigT k)[j]? = some s.t:=by
 unfold sigO at h;unfold sigT;rw [List.getElem?_map,Option.map_eq_some_iff] at h;obtain ⟨u,hu,he⟩:=h;have hm:u∈sgs:=(List.mem_filter.1 (List.mem_of_getElem? hu)).1;rw [List.getElem?_map,hu,Option.map_some,sg_same u hm s hs (he.trans ho.symm)]
theorem sig_len (k:Int):(sigT k).length=(sigO k).length:=by unfold sigT sigO; rw [List.length_map,List.length_map]
theorem rput_bin {o:Int} {x y:Ex} (h7:¬ (o = 7 \/ o = 8)) (hg:ExprSpec.Good (.bin o x y)) (ihx:RPutOk x) (ihy:RPutOk y):RPutOk (.bin o x y):=by
 intro A n c l a rest k w h hd
 have hsz:(bk (lev x < (sgOf o).left) (tx x)).size <= 60000 /\ (bk (lev y < (sgOf o).right) (tx y)).size <= 60000:=by
  have h1:=QO hg.2.1;have h1':=QO hg.2.2;have h2:=congrArg List.length hd;have h3:=h.few;have h4:=h.len;have h5:=Jn (lev x<(sgOf o).left) (tx x);have h6:=Jn (lev y<(sgOf o).right) (tx y);rw [show flat (.bin o x y)=opT o::(flat x++flat y) from rfl,List.length_drop,List.length_append,List.length_cons,List.length_append] at h2;omega
 obtain ⟨hsz1,hsz2⟩:=hsz;obtain ⟨b,off,t',rfl,hb,hop,hal,hfew,⟨r,hr⟩,c0,c1,c2,hbl,hlv⟩:=Qai h hd hg;rw [show opE (.bin o x y)=o from rfl] at hop;have hal':(a:Int)<n:=by omega
 have ha0:(0:Int)<=(a:Int):=by omega
 have hd1:l.drop (a + 1) = flat x ++ (flat y ++ rest):=by
  rw [<- List.append_assoc]; exact JH (t:=opT o) hd
 have hd2:l.drop (a + 1 + (flat x).length) = flat y ++ rest:=by
  rw [<- List.drop_drop,hd1,List.drop_left]
 have hbl':∀ w',Below w.heap.size w w' -> Calls Tryz.prog 147 #[.slice (some ⟨b,off,none⟩) n c,.int .i64 a] w' (RetInts w' [((a + 1:Nat):Int),((a + 1 + (flat x).length:Nat):Int)]):=by
  intro w' hw;have:=hbl w' hw
  rwa [show arN (opE (.bin o x y))=2 from by show (ar o).toNat=2; rw [hg.1]; rfl,Qaa (by rw [hd1]; exact JF _ (JY hg.2.1).1)] at this
 have HB:=qh hbl';have HI:=qh (fun W hW=>ihx (some ⟨b,off,none⟩) n c l (a+1) (flat y++rest) (sgOf o).left W (h.on hW) hd1);have HJ:=qh (fun W hW=>ihy (some ⟨b,off,none⟩) n c l (a+1+(flat x).length) rest (sgOf o).right W (h.on hW) hd2);rw [hop] at c0 hlv;have elv:lev (.bin o x y)=(sgOf o).lev:=if_neg h7;rw [elv] at hlv;have HT:Hid (tx (.bin o x y)=(((bk (lev x<(sgOf o).left) (tx x)++⟨#[32]⟩)++(sgOf o).t)++⟨#[32]⟩)++bk (lev y<(sgOf o).right) (tx y)):=qh (tx_bin h7 x y);obtain ⟨hm,hso⟩:=Qbj hg.1 h7;obtain ⟨sg,hsg⟩:∃ sg,sg=sgOf o:=⟨_,rfl⟩;rw [<- hsg] at HI HJ HT hlv elv hm hso hsz1 hsz2;have hall:=Qb6 sg hm;have hsz3:sg.t.size<=3:=Qgn sg hm;obtain ⟨lv,hlvv⟩:∃ lv,lv=sg.lev:=⟨_,rfl⟩;rw [<- hlvv] at hlv elv hall;have HLV:Hid (∀ w',Calls Tryz.prog 146 #[.int .i64 o] w' (RetI w' lv)):=qh hlv;have HBK:Hid (∀ X,tx (.bin o x y)=X->bk (lev (.bin o x y)<k) (tx (.bin o x y))=if lv<k then (⟨#[40]⟩++X)++⟨#[41]⟩ else X):=qh (fun X hX=>by subst hX; rw [elv]; rfl);have hO:o∈sigO lv:=by rw [<- hso]; exact sig_all hm hlvv.symm
 have hTJ:∀ j,(sigO lv)[j]?=some o->(sigT lv)[j]?=some sg.t:=fun j hj=>sig_text hm hso hj
 have HSG:=qh (fun w=>Qap lv w);have hln:=sig_len lv;have hfew':=sig_few lv
 have hq1:(lv = 4 /\ sg.left = 5) \/ (lv ≠ 4 /\ sg.left = lv):=by
  have:=hall.2.1;unfold first at this
  split at this
  ·exact .inl ⟨by assumption,this⟩
  ·exact .inr ⟨by assumption,this⟩
 have hq2:sg.right=lv+1:=hall.1;have hlv8:1<=lv/\lv<8:=by omega
 rw [hq2] at HJ HT hsz2;obtain ⟨os,hos⟩:∃ os,os=sigO lv:=⟨_,rfl⟩;obtain ⟨ts,hts⟩:∃ ts,ts=sigT lv:=⟨_,rfl⟩;have HSG':Hid (∀ w,Calls Tryz.prog 148 #[.int .i64 lv] w fun e w'=>∃ v1 v2,e = .returned (.tuple #[v1,v2])/\Rd w' v1 (strV ts)/\Rd w' v2 (intV os)/\Below w.heap.size w w'):=qh (fun w=>(HSG.o w).mono fun e w' ⟨v1,v2,he,h1,h2,_,_,h3⟩=>⟨v1,v2,he,by rw [hts]; exact h1,by rw [hos]; exact h2,h3⟩);rw [<- hos] at hO hTJ hln hfew';rw [<- hts] at hTJ hln;have HTJ:=qh (And.intro hO hTJ);have HLN:=qh hln;have hn11:os.length<=11:=hfew';obtain ⟨p,hp⟩:∃ p:Nat,p=a+1:=⟨_,rfl⟩;obtain ⟨q,hq⟩:∃ q:Nat,q=a+1+(flat x).length:=⟨_,rfl⟩;rw [<- hq] at HB HJ;rw [<- hp] at HB HI;obtain ⟨sx,hsx⟩:∃ sx,sx=bk (lev x<sg.left) (tx x):=⟨_,rfl⟩;obtain ⟨sy,hsy⟩:∃ sy,sy=bk (lev y<lv+1) (tx y):=⟨_,rfl⟩;rw [<- hsx] at HI HT hsz1;rw [<- hsy] at HJ HT hsz2;obtain ⟨st,hst⟩:∃ st,st=sg.t:=⟨_,rfl⟩;rw [<- hst] at HT HTJ hsz3;obtain ⟨lf,hlf⟩:∃ lf,lf=sg.left:=⟨_,rfl⟩;rw [<- hlf] at HI hq1;obtain ⟨nn,hnn⟩:∃ nn,nn=t'.n:=⟨_,rfl⟩;obtain ⟨ss,hss⟩:∃ ss,ss=t'.s:=⟨_,rfl⟩;rw [<- hnn] at c1;rw [<- hss] at c2
 have h0:¬ (o = 1 \/ o = 2 \/ o = 9 \/ o = 10 \/ o = 11 \/ o = 12 \/ o = 3):=by
  rintro (rfl | rfl | rfl | rfl | rfl | rfl | rfl)<;>exact absurd hg.1 (by decide)
 have e1:(o==1)=false:=by simp; omega
 have e3:(o==9)=false:=by simp; omega
 have e4:(o==10)=false:=by simp; omega
 have e5:(o==11)=false:=by simp; omega
 have e6:(o==7)=false:=by simp; omega
 have e7:(o==8)=false:=by simp; omega
 have e8:(o==12)=false:=by simp; omega
 have e9:(o==3)=false:=by simp; omega
 have g8:decide (lv<8)=true:=by simpa using hlv8.2
 have gw:IntKind.i64.wrap (lv+1)=lv+1:=IntWalk.i64_in _ (by omega);obtain ⟨hlv1,hlv2⟩:=hlv8;clear h hd hop hr hbl hbl' hlv hg ihx ihy hd1 hd2 hp hq hsx hsy hnn hss h7 h0 hall hso hm hsg hlvv hos hts hst hlf hq2 elv hln hfew' hO hTJ HSG
 rcases hq1 with ⟨h4,rfl⟩ | ⟨h4,hq⟩
 ·have g4:(lv == 4) = true:=by simpa using h4
  clear h4
  by_cases hk:lv<k
  ·have HF:Hid (bk (lev (.bin o x y) < k) (tx (.bin o x y)) = (⟨#[40]⟩ ++ ((((sx ++ ⟨#[32]⟩) ++ st) ++ ⟨#[32]⟩) ++ sy)) ++ ⟨#[41]⟩):=qh (by rw [HBK.o _ HT.o,if_pos hk])
   rw [HF.o];have gk:decide (lv<k)=true:=by simpa using hk
   clear HF HBK HT;go_enter Tryz.func112,Tryz.ntmps112;go_wp2_with (go_at_call 146; go_fit (HLV.o _));rintro e w1 ⟨rfl,hb1⟩;have hk1:=Qe (heap_alloc_new w (.cells #[.int .i64 o,.int .i64 nn,.string ss] 123)) hb1;have HB1:=qh (((Below.refl _ _).alloc (Nat.le_refl _) (.cells #[.int .i64 o,.int .i64 nn,.string ss] 123)).trans (hb1.mono (by simp)));obtain ⟨p0,p1,p2⟩:=Qj hk1;have HK1:=qh hk1;clear hb1 hk1 c0 c1 c2;go_wp2_with (go_at_call 147; go_fit (HB.o _ HB1.o));rintro e w2 ⟨v,rfl,hr2,hb2⟩;have HZ:=qh (Qa HB1.o hb2);have hk2:=Qe HK1.o hb2;have HK2:=qh hk2;clear p0 p1 p2 hb2;obtain ⟨y0,y1,y2⟩:=Qj hk2;clear hk2;obtain ⟨bR,oR,cR,rfl,hbR,r0,r1⟩:=QaV hr2;clear hr2;go_wp2_with (go_at_call 148; go_fit (HSG'.o _));rintro e w3 ⟨v1,v2,rfl,hr3,hr4,hb3⟩;obtain ⟨A1,m1,d1,rfl,hm1,hd1,hA1⟩:=hr3.strs;obtain ⟨A2,m2,d2,rfl,hm2,hd2,hA2⟩:=hr4.ints;have HA1:=qh hA1;have HA2:=qh hA2;have HM:=qh (And.intro hm1 hm2);have HZ3:=qh (Qa HZ.o hb3);have HK3:=qh (Qe HK2.o hb3);have R0:=qh ((hb3.cell (p:=⟨bR,oR,none⟩) hbR).trans r0);have R1:=qh ((hb3.cell (p:=⟨bR,oR+1,none⟩) hbR).trans r1);have hbR3:bR<w3.heap.size:=Nat.lt_of_lt_of_le hbR hb3.size;have hm11:m2<=11:=by omega
   clear hr3 hr4 hA1 hA2 hm1 hm2 hd1 hd2 hb3 y0 y1 y2 r0 r1 hbR hn11;go_wp2_with fail
   go_loopw [13,14] (fun p i wr=>RsgRel w3 os o st m2 p i wr) (fun _ i _=>m2-(intOf i).toNat)
   case atStart=>exact ⟨0,Nat.zero_le _,rfl,by simp,Below.refl _ _⟩
   case round =>
    obtain ⟨j,hj,rfl,rfl,hbw⟩:=hrel;have HW:=qh hbw;obtain ⟨pv,hpv⟩:∃ pv,pv=(if o∈os.take j then st else (⟨#[]⟩:ByteArray)):=⟨_,rfl⟩;rw [<- hpv];have HPV:=qh hpv;clear hpv;obtain ⟨y0,y1,y2⟩:=Qj (Qe HK3.o hbw);clear hbw
    by_cases hlt:j<m2
    ·obtain ⟨b2,f2,rfl,hb2,hcell2⟩:=HA2.o (by omega)
     obtain ⟨u,hu⟩:∃ u,os[j]?=some u:=Qp (by rw [HM.o.2]; exact hlt);have c0:=(HW.o.cell (p:=⟨b2,f2+j,none⟩) hb2).trans (hcell2 j u hu);have HU:=qh hu;have hltI:(j:Int)<(m2:Int):=by omega
     have hm12:m1=m2:=by have h1:=HM.o.1; have h2:=HM.o.2; have h3:=HLN.o; omega
     subst hm12;clear hu hcell2
     by_cases he:u=o
     ·have g1:(u == o) = true:=by simpa using he
      have hT:=HTJ.o.2 j (by rw [<- he]; exact HU.o);obtain ⟨b1,f1,rfl,hb1,hcell1⟩:=HA1.o (by omega);have s0:=(HW.o.cell (p:=⟨b1,f1+j,none⟩) hb1).trans (hcell1 j _ hT);have HE:=qh he;clear hT hcell1 he;go_wp2_with fail;go_big_quiet (fail);go_wp2_with fail
      go_roundw
      case rel=>exact ⟨j+1,hlt,by simp,by rw [if_pos (by rw [QA HU.o,HE.o]; simp)],below_drewN HW.o _⟩
      case measure=>simp [intOf]; omega
     ·have g1:(u == o) = false:=by simpa using he
      have HE:=qh he;clear he;go_wp2_with fail;go_big_quiet (fail);go_wp2_with fail
      go_roundw
      case rel=>exact ⟨j+1,hlt,by simp,Qf2 HPV.o HU.o HE.o,below_drewN HW.o _⟩
      case measure=>simp [intOf]; omega
    ·obtain rfl:j = m2:=by omega
     have hge:¬ (j:Int)<(j:Int):=by omega
     have hin:pv=st:=HPV.o.trans (if_pos (by rw [List.take_of_length_le (by rw [HM.o.2]; exact Nat.le_refl _)]; exact HTJ.o.1));rw [hin];have q0:=(HW.o.cell (p:=⟨bR,oR,none⟩) hbR3).trans R0.o;have q1:=(HW.o.cell (p:=⟨bR,oR+1,none⟩) hbR3).trans R1.o;have hbR4:=Nat.lt_of_lt_of_le hbR3 HW.o.size;have HZ4:=qh (Qa HZ3.o HW.o);have z0:¬ 9223372036854775807<sx.size+1:=by omega
     have z1:¬ 9223372036854775807<sx.size+1+st.size:=by omega
     have z2:¬ 9223372036854775807<sx.size+1+st.size+1:=by omega
     have z3:¬ 9223372036854775807<sx.size+1+st.size+1+sy.size:=by omega
     clear hin hbR3 hlt;go_wp2_with fail
     go_region_held3 (fun w' => w'.cell? ⟨bR,oR,none⟩ = some (.int .i64 p) /\ w'.cell? ⟨bR,oR + 1,none⟩ = some (.int .i64 q)) (go_keep)
      ((first
        | (go_at_call 112; go_fit (HI.o _ HZ4.o.drew); rintro e w5 ⟨rfl,hb5'⟩; have hb5:=undrew hb5'; have HZ5:=qh (Qa HZ4.o hb5); have e0:=(hb5.cell (p:=⟨bR,oR,none⟩) hbR4).trans q0; have e1':=(hb5.cell (p:=⟨bR,oR + 1,none⟩) hbR4).trans q1; have hbR5:=Nat.lt_of_lt_of_le hbR4 hb5.size; clear hb5 hb5')
        | (go_at_call 112; go_fit (HJ.o _ HZ5.o); rintro e w6 ⟨rfl,hb6⟩; have HZ6:=qh (Qa HZ5.o hb6); have u0:=(hb6.cell (p:=⟨bR,oR,none⟩) hbR5).trans e0; have u1:=(hb6.cell (p:=⟨bR,oR + 1,none⟩) hbR5).trans e1'; clear hb6)))
     all_goals
      go_wp2_with fail;go_ret;exact ⟨rfl,HZ6.o⟩
  ·have HF:Hid (bk (lev (.bin o x y) < k) (tx (.bin o x y)) = (((sx ++ ⟨#[32]⟩) ++ st) ++ ⟨#[32]⟩) ++ sy):=qh (by rw [HBK.o _ HT.o,if_neg hk])
   rw [HF.o];have gk:decide (lv<k)=false:=by simpa using hk
   clear HF HBK HT;go_enter Tryz.func112,Tryz.ntmps112;go_wp2_with (go_at_call 146; go_fit (HLV.o _));rintro e w1 ⟨rfl,hb1⟩;have hk1:=Qe (heap_alloc_new w (.cells #[.int .i64 o,.int .i64 nn,.string ss] 123)) hb1;have HB1:=qh (((Below.refl _ _).alloc (Nat.le_refl _) (.cells #[.int .i64 o,.int .i64 nn,.string ss] 123)).trans (hb1.mono (by simp)));obtain ⟨p0,p1,p2⟩:=Qj hk1;have HK1:=qh hk1;clear hb1 hk1 c0 c1 c2;go_wp2_with (go_at_call 147; go_fit (HB.o _ HB1.o));rintro e w2 ⟨v,rfl,hr2,hb2⟩;have HZ:=qh (Qa HB1.o hb2);have hk2:=Qe HK1.o hb2;have HK2:=qh hk2;clear p0 p1 p2 hb2;obtain ⟨y0,y1,y2⟩:=Qj hk2;clear hk2;obtain ⟨bR,oR,cR,rfl,hbR,r0,r1⟩:=QaV hr2;clear hr2;go_wp2_with (go_at_call 148; go_fit (HSG'.o _));rintro e w3 ⟨v1,v2,rfl,hr3,hr4,hb3⟩;obtain ⟨A1,m1,d1,rfl,hm1,hd1,hA1⟩:=hr3.strs;obtain ⟨A2,m2,d2,rfl,hm2,hd2,hA2⟩:=hr4.ints;have HA1:=qh hA1;have HA2:=qh hA2;have HM:=qh (And.intro hm1 hm2);have HZ3:=qh (Qa HZ.o hb3);have HK3:=qh (Qe HK2.o hb3);have R0:=qh ((hb3.cell (p:=⟨bR,oR,none⟩) hbR).trans r0);have R1:=qh ((hb3.cell (p:=⟨bR,oR+1,none⟩) hbR).trans r1);have hbR3:bR<w3.heap.size:=Nat.lt_of_lt_of_le hbR hb3.size;have hm11:m2<=11:=by omega
   clear hr3 hr4 hA1 hA2 hm1 hm2 hd1 hd2 hb3 y0 y1 y2 r0 r1 hbR hn11;go_wp2_with fail
   go_loopw [13,14] (fun p i wr=>RsgRel w3 os o st m2 p i wr) (fun _ i _=>m2-(intOf i).toNat)
   case atStart=>exact ⟨0,Nat.zero_le _,rfl,by simp,Below.refl _ _⟩
   case round =>
    obtain ⟨j,hj,rfl,rfl,hbw⟩:=hrel;have HW:=qh hbw;obtain ⟨pv,hpv⟩:∃ pv,pv=(if o∈os.take j then st else (⟨#[]⟩:ByteArray)):=⟨_,rfl⟩;rw [<- hpv];have HPV:=qh hpv;clear hpv;obtain ⟨y0,y1,y2⟩:=Qj (Qe HK3.o hbw);clear hbw
    by_cases hlt:j<m2
    ·obtain ⟨b2,f2,rfl,hb2,hcell2⟩:=HA2.o (by omega)
     obtain ⟨u,hu⟩:∃ u,os[j]?=some u:=Qp (by rw [HM.o.2]; exact hlt);have c0:=(HW.o.cell (p:=⟨b2,f2+j,none⟩) hb2).trans (hcell2 j u hu);have HU:=qh hu;have hltI:(j:Int)<(m2:Int):=by omega
     have hm12:m1=m2:=by have h1:=HM.o.1; have h2:=HM.o.2; have h3:=HLN.o; omega
     subst hm12;clear hu hcell2
     by_cases he:u=o
     ·have g1:(u == o) = true:=by simpa using he
      have hT:=HTJ.o.2 j (by rw [<- he]; exact HU.o);obtain ⟨b1,f1,rfl,hb1,hcell1⟩:=HA1.o (by omega);have s0:=(HW.o.cell (p:=⟨b1,f1+j,none⟩) hb1).trans (hcell1 j _ hT);have HE:=qh he;clear hT hcell1 he;go_wp2_with fail;go_big_quiet (fail);go_wp2_with fail
      go_roundw
      case rel=>exact ⟨j+1,hlt,by simp,by rw [if_pos (by rw [QA HU.o,HE.o]; simp)],below_drewN HW.o _⟩
      case measure=>simp [intOf]; omega
     ·have g1:(u == o) = false:=by simpa using he
      have HE:=qh he;clear he;go_wp2_with fail;go_big_quiet (fail);go_wp2_with fail
      go_roundw
      case rel=>exact ⟨j+1,hlt,by simp,Qf2 HPV.o HU.o HE.o,below_drewN HW.o _⟩
      case measure=>simp [intOf]; omega
    ·obtain rfl:j = m2:=by omega
     have hge:¬ (j:Int)<(j:Int):=by omega
     have hin:pv=st:=HPV.o.trans (if_pos (by rw [List.take_of_length_le (by rw [HM.o.2]; exact Nat.le_refl _)]; exact HTJ.o.1));rw [hin];have q0:=(HW.o.cell (p:=⟨bR,oR,none⟩) hbR3).trans R0.o;have q1:=(HW.o.cell (p:=⟨bR,oR+1,none⟩) hbR3).trans R1.o;have hbR4:=Nat.lt_of_lt_of_le hbR3 HW.o.size;have HZ4:=qh (Qa HZ3.o HW.o);have z0:¬ 9223372036854775807<sx.size+1:=by omega
     have z1:¬ 9223372036854775807<sx.size+1+st.size:=by omega
     have z2:¬ 9223372036854775807<sx.size+1+st.size+1:=by omega
     have z3:¬ 9223372036854775807<sx.size+1+st.size+1+sy.size:=by omega
     clear hin hbR3 hlt;go_wp2_with fail
     go_region_held3 (fun w' => w'.cell? ⟨bR,oR,none⟩ = some (.int .i64 p) /\ w'.cell? ⟨bR,oR + 1,none⟩ = some (.int .i64 q)) (go_keep)
      ((first
        | (go_at_call 112; go_fit (HI.o _ HZ4.o.drew); rintro e w5 ⟨rfl,hb5'⟩; have hb5:=undrew hb5'; have HZ5:=qh (Qa HZ4.o hb5); have e0:=(hb5.cell (p:=⟨bR,oR,none⟩) hbR4).trans q0; have e1':=(hb5.cell (p:=⟨bR,oR + 1,none⟩) hbR4).trans q1; have hbR5:=Nat.lt_of_lt_of_le hbR4 hb5.size; clear hb5 hb5')
        | (go_at_call 112; go_fit (HJ.o _ HZ5.o); rintro e w6 ⟨rfl,hb6⟩; have HZ6:=qh (Qa HZ5.o hb6); have u0:=(hb6.cell (p:=⟨bR,oR,none⟩) hbR5).trans e0; have u1:=(hb6.cell (p:=⟨bR,oR + 1,none⟩) hbR5).trans e1'; clear hb6)))
     all_goals
      go_wp2_with fail;go_ret;exact ⟨rfl,HZ6.o⟩
 ·have g4:(lv == 4) = false:=by simpa using h4
  clear h4;rw [hq] at HI;clear hq
  by_cases hk:lv<k
  ·have HF:Hid (bk (lev (.bin o x y) < k) (tx (.bin o x y)) = (⟨#[40]⟩ ++ ((((sx ++ ⟨#[32]⟩) ++ st) ++ ⟨#[32]⟩) ++ sy)) ++ ⟨#[41]⟩):=qh (by rw [HBK.o _ HT.o,if_pos hk])
   rw [HF.o];have gk:decide (lv<k)=true:=by simpa using hk
   clear HF HBK HT;go_enter Tryz.func112,Tryz.ntmps112;go_wp2_with (go_at_call 146; go_fit (HLV.o _));rintro e w1 ⟨rfl,hb1⟩;have hk1:=Qe (heap_alloc_new w (.cells #[.int .i64 o,.int .i64 nn,.string ss] 123)) hb1;have HB1:=qh (((Below.refl _ _).alloc (Nat.le_refl _) (.cells #[.int .i64 o,.int .i64 nn,.string ss] 123)).trans (hb1.mono (by simp)));obtain ⟨p0,p1,p2⟩:=Qj hk1;have HK1:=qh hk1;clear hb1 hk1 c0 c1 c2;go_wp2_with (go_at_call 147; go_fit (HB.o _ HB1.o));rintro e w2 ⟨v,rfl,hr2,hb2⟩;have HZ:=qh (Qa HB1.o hb2);have hk2:=Qe HK1.o hb2;have HK2:=qh hk2;clear p0 p1 p2 hb2;obtain ⟨y0,y1,y2⟩:=Qj hk2;clear hk2;obtain ⟨bR,oR,cR,rfl,hbR,r0,r1⟩:=QaV hr2;clear hr2;go_wp2_with (go_at_call 148; go_fit (HSG'.o _));rintro e w3 ⟨v1,v2,rfl,hr3,hr4,hb3⟩;obtain ⟨A1,m1,d1,rfl,hm1,hd1,hA1⟩:=hr3.strs;obtain ⟨A2,m2,d2,rfl,hm2,hd2,hA2⟩:=hr4.ints;have HA1:=qh hA1;have HA2:=qh hA2;have HM:=qh (And.intro hm1 hm2);have HZ3:=qh (Qa HZ.o hb3);have HK3:=qh (Qe HK2.o hb3);have R0:=qh ((hb3.cell (p:=⟨bR,oR,none⟩) hbR).trans r0);have R1:=qh ((hb3.cell (p:=⟨bR,oR+1,none⟩) hbR).trans r1);have hbR3:bR<w3.heap.size:=Nat.lt_of_lt_of_le hbR hb3.size;have hm11:m2<=11:=by omega
   clear hr3 hr4 hA1 hA2 hm1 hm2 hd1 hd2 hb3 y0 y1 y2 r0 r1 hbR hn11;go_wp2_with fail
   go_loopw [13,14] (fun p i wr=>RsgRel w3 os o st m2 p i wr) (fun _ i _=>m2-(intOf i).toNat)
   case atStart=>exact ⟨0,Nat.zero_le _,rfl,by simp,Below.refl _ _⟩
   case round =>
    obtain ⟨j,hj,rfl,rfl,hbw⟩:=hrel;have HW:=qh hbw;obtain ⟨pv,hpv⟩:∃ pv,pv=(if o∈os.take j then st else (⟨#[]⟩:ByteArray)):=⟨_,rfl⟩;rw [<- hpv];have HPV:=qh hpv;clear hpv;obtain ⟨y0,y1,y2⟩:=Qj (Qe HK3.o hbw);clear hbw
    by_cases hlt:j<m2
    ·obtain ⟨b2,f2,rfl,hb2,hcell2⟩:=HA2.o (by omega)
     obtain ⟨u,hu⟩:∃ u,os[j]?=some u:=Qp (by rw [HM.o.2]; exact hlt);have c0:=(HW.o.cell (p:=⟨b2,f2+j,none⟩) hb2).trans (hcell2 j u hu);have HU:=qh hu;have hltI:(j:Int)<(m2:Int):=by omega
     have hm12:m1=m2:=by have h1:=HM.o.1; have h2:=HM.o.2; have h3:=HLN.o; omega
     subst hm12;clear hu hcell2
     by_cases he:u=o
     ·have g1:(u == o) = true:=by simpa using he
      have hT:=HTJ.o.2 j (by rw [<- he]; exact HU.o);obtain ⟨b1,f1,rfl,hb1,hcell1⟩:=HA1.o (by omega);have s0:=(HW.o.cell (p:=⟨b1,f1+j,none⟩) hb1).trans (hcell1 j _ hT);have HE:=qh he;clear hT hcell1 he;go_wp2_with fail;go_big_quiet (fail);go_wp2_with fail
      go_roundw
      case rel=>exact ⟨j+1,hlt,by simp,by rw [if_pos (by rw [QA HU.o,HE.o]; simp)],below_drewN HW.o _⟩
      case measure=>simp [intOf]; omega
     ·have g1:(u == o) = false:=by simpa using he
      have HE:=qh he;clear he;go_wp2_with fail;go_big_quiet (fail);go_wp2_with fail
      go_roundw
      case rel=>exact ⟨j+1,hlt,by simp,Qf2 HPV.o HU.o HE.o,below_drewN HW.o _⟩
      case measure=>simp [intOf]; omega
    ·obtain rfl:j = m2:=by omega
     have hge:¬ (j:Int)<(j:Int):=by omega
     have hin:pv=st:=HPV.o.trans (if_pos (by rw [List.take_of_length_le (by rw [HM.o.2]; exact Nat.le_refl _)]; exact HTJ.o.1));rw [hin];have q0:=(HW.o.cell (p:=⟨bR,oR,none⟩) hbR3).trans R0.o;have q1:=(HW.o.cell (p:=⟨bR,oR+1,none⟩) hbR3).trans R1.o;have hbR4:=Nat.lt_of_lt_of_le hbR3 HW.o.size;have HZ4:=qh (Qa HZ3.o HW.o);have z0:¬ 9223372036854775807<sx.size+1:=by omega
     have z1:¬ 9223372036854775807<sx.size+1+st.size:=by omega
     have z2:¬ 9223372036854775807<sx.size+1+st.size+1:=by omega
     have z3:¬ 9223372036854775807<sx.size+1+st.size+1+sy.size:=by omega
     clear hin hbR3 hlt;go_wp2_with fail
     go_region_held3 (fun w' => w'.cell? ⟨bR,oR,none⟩ = some (.int .i64 p) /\ w'.cell? ⟨bR,oR + 1,none⟩ = some (.int .i64 q)) (go_keep)
      ((first
        | (go_at_call 112; go_fit (HI.o _ HZ4.o.drew); rintro e w5 ⟨rfl,hb5'⟩; have hb5:=undrew hb5'; have HZ5:=qh (Qa HZ4.o hb5); have e0:=(hb5.cell (p:=⟨bR,oR,none⟩) hbR4).trans q0; have e1':=(hb5.cell (p:=⟨bR,oR + 1,none⟩) hbR4).trans q1; have hbR5:=Nat.lt_of_lt_of_le hbR4 hb5.size; clear hb5 hb5')
        | (go_at_call 112; go_fit (HJ.o _ HZ5.o); rintro e w6 ⟨rfl,hb6⟩; have HZ6:=qh (Qa HZ5.o hb6); have u0:=(hb6.cell (p:=⟨bR,oR,none⟩) hbR5).trans e0; have u1:=(hb6.cell (p:=⟨bR,oR + 1,none⟩) hbR5).trans e1'; clear hb6)))
     all_goals
      go_wp2_with fail;go_ret;exact ⟨rfl,HZ6.o⟩
  ·have HF:Hid (bk (lev (.bin o x y) < k) (tx (.bin o x y)) = (((sx ++ ⟨#[32]⟩) ++ st) ++ ⟨#[32]⟩) ++ sy):=qh (by rw [HBK.o _ HT.o,if_neg hk])
   rw [HF.o];have gk:decide (lv<k)=false:=by simpa using hk
   clear HF HBK HT;go_enter Tryz.func112,Tryz.ntmps112;go_wp2_with (go_at_call 146; go_fit (HLV.o _));rintro e w1 ⟨rfl,hb1⟩;have hk1:=Qe (heap_alloc_new w (.cells #[.int .i64 o,.int .i64 nn,.string ss] 123)) hb1;have HB1:=qh (((Below.refl _ _).alloc (Nat.le_refl _) (.cells #[.int .i64 o,.int .i64 nn,.string ss] 123)).trans (hb1.mono (by simp)));obtain ⟨p0,p1,p2⟩:=Qj hk1;have HK1:=qh hk1;clear hb1 hk1 c0 c1 c2;go_wp2_with (go_at_call 147; go_fit (HB.o _ HB1.o));rintro e w2 ⟨v,rfl,hr2,hb2⟩;have HZ:=qh (Qa HB1.o hb2);have hk2:=Qe HK1.o hb2;have HK2:=qh hk2;clear p0 p1 p2 hb2;obtain ⟨y0,y1,y2⟩:=Qj hk2;clear hk2;obtain ⟨bR,oR,cR,rfl,hbR,r0,r1⟩:=QaV hr2;clear hr2;go_wp2_with (go_at_call 148; go_fit (HSG'.o _));rintro e w3 ⟨v1,v2,rfl,hr3,hr4,hb3⟩;obtain ⟨A1,m1,d1,rfl,hm1,hd1,hA1⟩:=hr3.strs;obtain ⟨A2,m2,d2,rfl,hm2,hd2,hA2⟩:=hr4.ints;have HA1:=qh hA1;have HA2:=qh hA2;have HM:=qh (And.intro hm1 hm2);have HZ3:=qh (Qa HZ.o hb3);have HK3:=qh (Qe HK2.o hb3);have R0:=qh ((hb3.cell (p:=⟨bR,oR,none⟩) hbR).trans r0);have R1:=qh ((hb3.cell (p:=⟨bR,oR+1,none⟩) hbR).trans r1);have hbR3:bR<w3.heap.size:=Nat.lt_of_lt_of_le hbR hb3.size;have hm11:m2<=11:=by omega
   clear hr3 hr4 hA1 hA2 hm1 hm2 hd1 hd2 hb3 y0 y1 y2 r0 r1 hbR hn11;go_wp2_with fail
   go_loopw [13,14] (fun p i wr=>RsgRel w3 os o st m2 p i wr) (fun _ i _=>m2-(intOf i).toNat)
   case atStart=>exact ⟨0,Nat.zero_le _,rfl,by simp,Below.refl _ _⟩
   case round =>
    obtain ⟨j,hj,rfl,rfl,hbw⟩:=hrel;have HW:=qh hbw;obtain ⟨pv,hpv⟩:∃ pv,pv=(if o∈os.take j then st else (⟨#[]⟩:ByteArray)):=⟨_,rfl⟩;rw [<- hpv];have HPV:=qh hpv;clear hpv;obtain ⟨y0,y1,y2⟩:=Qj (Qe HK3.o hbw);clear hbw
    by_cases hlt:j<m2
    ·obtain ⟨b2,f2,rfl,hb2,hcell2⟩:=HA2.o (by omega)
     obtain ⟨u,hu⟩:∃ u,os[j]?=some u:=Qp (by rw [HM.o.2]; exact hlt);have c0:=(HW.o.cell (p:=⟨b2,f2+j,none⟩) hb2).trans (hcell2 j u hu);have HU:=qh hu;have hltI:(j:Int)<(m2:Int):=by omega
     have hm12:m1=m2:=by have h1:=HM.o.1; have h2:=HM.o.2; have h3:=HLN.o; omega
     subst hm12;clear hu hcell2
     by_cases he:u=o
     ·have g1:(u == o) = true:=by simpa using he
      have hT:=HTJ.o.2 j (by rw [<- he]; exact HU.o);obtain ⟨b1,f1,rfl,hb1,hcell1⟩:=HA1.o (by omega);have s0:=(HW.o.cell (p:=⟨b1,f1+j,none⟩) hb1).trans (hcell1 j _ hT);have HE:=qh he;clear hT hcell1 he;go_wp2_with fail;go_big_quiet (fail);go_wp2_with fail
      go_roundw
      case rel=>exact ⟨j+1,hlt,by simp,by rw [if_pos (by rw [QA HU.o,HE.o]; simp)],below_drewN HW.o _⟩
      case measure=>simp [intOf]; omega
     ·have g1:(u == o) = false:=by simpa using he
      have HE:=qh he;clear he;go_wp2_with fail;go_big_quiet (fail);go_wp2_with fail
      go_roundw
      case rel=>exact ⟨j+1,hlt,by simp,Qf2 HPV.o HU.o HE.o,below_drewN HW.o _⟩
      case measure=>simp [intOf]; omega
    ·obtain rfl:j = m2:=by omega
     have hge:¬ (j:Int)<(j:Int):=by omega
     have hin:pv=st:=HPV.o.trans (if_pos (by rw [List.take_of_length_le (by rw [HM.o.2]; exact Nat.le_refl _)]; exact HTJ.o.1));rw [hin];have q0:=(HW.o.cell (p:=⟨bR,oR,none⟩) hbR3).trans R0.o;have q1:=(HW.o.cell (p:=⟨bR,oR+1,none⟩) hbR3).trans R1.o;have hbR4:=Nat.lt_of_lt_of_le hbR3 HW.o.size;have HZ4:=qh (Qa HZ3.o HW.o);have z0:¬ 9223372036854775807<sx.size+1:=by omega
     have z1:¬ 9223372036854775807<sx.size+1+st.size:=by omega
     have z2:¬ 9223372036854775807<sx.size+1+st.size+1:=by omega
     have z3:¬ 9223372036854775807<sx.size+1+st.size+1+sy.size:=by omega
     clear hin hbR3 hlt;go_wp2_with fail
     go_region_held3 (fun w' => w'.cell? ⟨bR,oR,none⟩ = some (.int .i64 p) /\ w'.cell? ⟨bR,oR + 1,none⟩ = some (.int .i64 q)) (go_keep)
      ((first
        | (go_at_call 112; go_fit (HI.o _ HZ4.o.drew); rintro e w5 ⟨rfl,hb5'⟩; have hb5:=undrew hb5'; have HZ5:=qh (Qa HZ4.o hb5); have e0:=(hb5.cell (p:=⟨bR,oR,none⟩) hbR4).trans q0; have e1':=(hb5.cell (p:=⟨bR,oR + 1,none⟩) hbR4).trans q1; have hbR5:=Nat.lt_of_lt_of_le hbR4 hb5.size; clear hb5 hb5')
        | (go_at_call 112; go_fit (HJ.o _ HZ5.o); rintro e w6 ⟨rfl,hb6⟩; have HZ6:=qh (Qa HZ5.o hb6); have u0:=(hb6.cell (p:=⟨bR,oR,none⟩) hbR5).trans e0; have u1:=(hb6.cell (p:=⟨bR,oR + 1,none⟩) hbR5).trans e1'; clear hb6)))
     all_goals
      go_wp2_with fail;go_ret;exact ⟨rfl,HZ6.o⟩
theorem Qbg:∀ e:Ex,ExprSpec.Good e -> RPutOk e
 | .leaf _,h => rput_leaf h
 | .un o x,h => by
   have ho:o = 3 \/ o = 12:=by
    have h1:=h.1;unfold ar at h1
    split at h1
    ·omega
    split at h1
    ·assumption
    split at h1<;>omega
   have ih:=Qbg x h.2
   rcases ho with rfl | rfl
   ·exact rput_neg h ih
   ·exact rput_not h ih
 | .bin o x y,h => by
   have ihx:=Qbg x h.2.1;have ihy:=Qbg y h.2.2
   rcases bin_ops h.1 with rfl | rfl | h7
   ·exact rput_min h ihx ihy
   ·exact rput_max h ihx ihy
   ·exact rput_bin h7 h ihx ihy
end
section
open Go.RowKit Go.Sort TermSpec EvalSpec ActSpec NamesSpec ExprSpec
set_option maxRecDepth 100000
theorem put_next {ts:List Ta} {k:Nat} {t:Ta} (h:ts[k]? = some t):putB (ts.take (k + 1)) = (if k = 0 then ⟨#[]⟩ else putB (ts.take k) ++ ⟨#[44,32]⟩) ++ txA t:=by
 rw [QA h,Qfa];have h1:=Ja h
 by_cases h0:k=0
 ·rw [if_pos h0,if_pos (by rw [h0]; rfl)]
 ·rw [if_neg h0,if_neg (fun e=>by have:=congrArg List.length e; rw [List.length_take,List.length_nil] at this; omega)]
theorem put_nil:putB ([]:List Ta)=⟨#[]⟩:=by simp [putB,putT,Lib.join_nil]
def RAPutRel (W:World) (ts:List Ta) (p i:Value) (wr:World):Prop:=∃ k:Nat,k<=ts.length/\i = .int .i64 k/\p = .string (putB (ts.take k))/\Below W.heap.size W wr
theorem QcD (ts:List Ta) (hok:∀ t ∈ ts,t.Ok) (h8:ts.length <= 8) (A:Option Addr) (n c:Nat) (w:World) (h:Acs w (.slice A n c) (ts.map Ta.ac)) (hs:SignsIn w) :
 Calls Tryz.prog 66 #[.slice A n c] w (RetS w (putB ts)):=by
 have HN:Hid (n=ts.length):=qh (by rw [h.len.1,List.length_map]);have HT:=qh (And.intro h hs);have HOK:=qh hok;have hn8:n<=8:=by have:=HN.o; omega
 clear h hs hok;go_enter Tryz.func66,Tryz.ntmps66;go_wp2_with fail
 go_loopw [3,4] (fun p i wr=>RAPutRel w ts p i wr) (fun _ i _=>ts.length-(intOf i).toNat)
 case atStart=>exact ⟨0,Nat.zero_le _,rfl,congrArg Value.string put_nil.symm,Below.refl _ _⟩
 case round =>
  obtain ⟨k,hk,rfl,rfl,hbw⟩:=hrel;have HB:=qh hbw;clear hbw
  by_cases hlt:k<n
  ·have hkI:(k:Int) < n:=by omega
   have hk8:(k:Int)<=8:=by omega
   obtain ⟨t,ht⟩:∃ t,ts[k]?=some t:=Qp (by rw [<- HN.o]; exact hlt);have hla:(ts.map Ta.ac)[k]?=some t.ac:=by rw [List.getElem?_map,ht]; rfl
   obtain ⟨b,off,tA,tn,tc,rfl,hb,htm,d0,d1,d2⟩:=(HT.o.1.keep HB.o).at_ hla;have hto:=HOK.o t (List.mem_of_getElem? ht);have hsz:=Qid hto;have hn12:=QG hto.1;have hs0:=Zy (ts:=ts.take k) (fun u hu=>HOK.o u (List.mem_of_mem_take hu));rw [List.length_take] at hs0;have HX:=qh (put_next ht);have hz:k=0->putB (ts.take k)=⟨#[]⟩:=fun e=>by rw [e]; exact put_nil
   obtain ⟨s0,hs⟩:∃ s0,s0=putB (ts.take k):=⟨_,rfl⟩;rw [<- hs] at HX hs0 hz ⊢;have hs0k:s0.size<=20000:=by omega
   have hd0:wr.cell? ⟨b,off+k*3,none⟩=some (.string t.s):=d0;have hd1:wr.cell? ⟨b,off+k*3+1,none⟩=some (.bool t.any):=d1;clear d0 d1 hs hs0 ht hla
   rcases ha:t.any with _ | _
   ·obtain ⟨hg,hck⟩:=hto.2 ha
    have hx:t.ac.x=flat t.e:=by simp [Ta.ac,ha]
    rw [hx] at htm;obtain ⟨_,_,_,heq,htn,htc⟩:=htm.shape
    cases heq
    have h40:=Qgu hto ha;have htz:=QO hg
    have HP:Hid (∀ W,Below wr.heap.size wr W -> Calls Tryz.prog 112 #[.slice tA tn tc,.int .i64 0,.int .i64 1] W (RetS W (tx t.e))):=qh (fun W hW => by
     have:=Qbg t.e hg tA tn tc (flat t.e) 0 [] 1 W ⟨htm.keep hW,htn,by omega,HT.o.2.keep (Qa HB.o hW)⟩ (by simp)
     rwa [show bk (lev t.e<1) (tx t.e)=tx t.e from if_neg (by have:=(Qbv hg).1; omega)] at this)
    have HTX:Hid (txA t=t.s++⟨#[32,58,61,32]⟩++tx t.e):=qh (by unfold txA; rw [if_neg (by rw [ha]; decide)]);obtain ⟨x,hxx⟩:∃ x,x=tx t.e:=⟨_,rfl⟩;rw [<- hxx] at HP HTX htz;obtain ⟨s,hss⟩:∃ s,s=t.s:=⟨_,rfl⟩;rw [<- hss] at HTX hd0 hn12;rw [ha] at hd1;have d0:=hd0;have hxk:x.size<=2000:=by omega
    have hsk:s.size<=12:=hn12;clear hto hg hck hx htm htn htc h40 htz hxx hss ha hsz hn12 hd0
    by_cases h0:k=0
    ·have g0:decide (0 < (k:Int)) = false:=decide_eq_false (by omega)
     have g0i:¬ 0<(k:Int):=by omega
     rw [if_pos h0] at HX;have HX:Hid (putB (ts.take (k+1))=s0++txA t):=qh (by rw [HX.o,hz h0]);clear hz h0;have HXA:Hid ((.string (s0++s++⟨#[32,58,61,32]⟩++x):Value) = .string (putB (ts.take (k+1)))):=qh (by rw [HX.o,HTX.o]; simp only [ByteArray.append_assoc]);have q1:¬ 9223372036854775807<s0.size+s.size:=by omega
     have q2:¬ 9223372036854775807<s0.size+s.size+4:=by omega
     have q3:¬ 9223372036854775807<s0.size+s.size+4+x.size:=by omega
     clear HX HTX;go_wp2_with fail
     go_region_held3 (fun w' => w'.cell? ⟨b,off + k * 3,none⟩ = some (.string s) /\ w'.cell? ⟨b,off + k * 3 + 2,none⟩ = some (.slice tA tn tc)) (go_keep)
      ((go_at_call 112; go_fit (HP.o _ ((Below.refl _ _).drew)); rintro e w5 ⟨rfl,hb5'⟩; have hb5:=undrew hb5'; have HZ5:=qh (Qa HB.o hb5); have e0:=(hb5.cell (p:=⟨b,off+k*3,none⟩) hb).trans d0; have e2:=(hb5.cell (p:=⟨b,off+k*3+2,none⟩) hb).trans d2; clear hb5 hb5'))
     all_goals
      go_wp2_with fail
      go_roundw
      case rel=>exact ⟨k+1,by have:=HN.o; omega,by go_num,HXA.o,HZ5.o⟩
      case measure=>have:=HN.o; simp [intOf]; omega
    ·have g0:decide (0 < (k:Int)) = true:=decide_eq_true (by omega)
     have g0i:0<(k:Int):=by omega
     rw [if_neg h0] at HX;have q0:¬ 9223372036854775807<s0.size+2:=by omega
     clear hz h0;have HXA:Hid ((.string (s0++⟨#[44,32]⟩++s++⟨#[32,58,61,32]⟩++x):Value) = .string (putB (ts.take (k+1)))):=qh (by rw [HX.o,HTX.o]; simp only [ByteArray.append_assoc]);have q1:¬ 9223372036854775807<s0.size+2+s.size:=by omega
     have q2:¬ 9223372036854775807<s0.size+2+s.size+4:=by omega
     have q3:¬ 9223372036854775807<s0.size+2+s.size+4+x.size:=by omega
     clear HX HTX;go_wp2_with fail
     go_region_held3 (fun w' => w'.cell? ⟨b,off + k * 3,none⟩ = some (.string s) /\ w'.cell? ⟨b,off + k * 3 + 2,none⟩ = some (.slice tA tn tc)) (go_keep)
      ((go_at_call 112; go_fit (HP.o _ ((Below.refl _ _).drew)); rintro e w5 ⟨rfl,hb5'⟩; have hb5:=undrew hb5'; have HZ5:=qh (Qa HB.o hb5); have e0:=(hb5.cell (p:=⟨b,off+k*3,none⟩) hb).trans d0; have e2:=(hb5.cell (p:=⟨b,off+k*3+2,none⟩) hb).trans d2; clear hb5 hb5'))
     all_goals
      go_wp2_with fail
      go_roundw
      case rel=>exact ⟨k+1,by have:=HN.o; omega,by go_num,HXA.o,HZ5.o⟩
      case measure=>have:=HN.o; simp [intOf]; omega
   ·have HTX:Hid (txA t = ⟨#[97,110,121,32]⟩ ++ t.s):=qh (by unfold txA; rw [if_pos ha])
    obtain ⟨s,hss⟩:∃ s,s=t.s:=⟨_,rfl⟩;rw [<- hss] at HTX hd0 hn12;rw [ha] at hd1;have hsk:s.size<=12:=hn12;clear hto htm hss ha hsz hn12
    by_cases h0:k=0
    ·have g0:decide (0 < (k:Int)) = false:=decide_eq_false (by omega)
     have g0i:¬ 0<(k:Int):=by omega
     rw [if_pos h0] at HX;have HX:Hid (putB (ts.take (k+1))=s0++txA t):=qh (by rw [HX.o,hz h0]);clear hz h0;have HXA:Hid ((.string (s0++⟨#[97,110,121,32]⟩++s):Value) = .string (putB (ts.take (k+1)))):=qh (by rw [HX.o,HTX.o]; simp only [ByteArray.append_assoc]);have q1:¬ 9223372036854775807<s0.size+4:=by omega
     have q2:¬ 9223372036854775807<s0.size+4+s.size:=by omega
     clear HX HTX;go_wp2_with fail
     go_roundw
     case rel=>exact ⟨k+1,by have:=HN.o; omega,by go_num,HXA.o,HB.o⟩
     case measure=>have:=HN.o; simp [intOf]; omega
    ·have g0:decide (0 < (k:Int)) = true:=decide_eq_true (by omega)
     have g0i:0<(k:Int):=by omega
     rw [if_neg h0] at HX;have q0:¬ 9223372036854775807<s0.size+2:=by omega
     clear hz h0;have HXA:Hid ((.string (s0++⟨#[44,32]⟩++⟨#[97,110,121,32]⟩++s):Value) = .string (putB (ts.take (k+1)))):=qh (by rw [HX.o,HTX.o]; simp only [ByteArray.append_assoc]);have q1:¬ 9223372036854775807<s0.size+2+4:=by omega
     have q2:¬ 9223372036854775807<s0.size+2+4+s.size:=by omega
     clear HX HTX;go_wp2_with fail
     go_roundw
     case rel=>exact ⟨k+1,by have:=HN.o; omega,by go_num,HXA.o,HB.o⟩
     case measure=>have:=HN.o; simp [intOf]; omega
  ·have hkI:¬ (k:Int) < n:=by omega
   have hall:ts.take k=ts:=List.take_of_length_le (by have:=HN.o; omega);rw [hall];clear hall;go_wp2_with fail;go_ret;exact ⟨rfl,HB.o⟩
end
section
open Go.RowKit Go.Sort TermSpec EvalSpec ActSpec NamesSpec ExprSpec TransSpec
set_option maxRecDepth 100000
def StrAt (W:World) (s:ByteArray) (p:Value) (w:World):Prop:=p = .string s/\Below W.heap.size W w
theorem txT_parts (x:Tt):txT x=(((headB x++guardB x.g)++actsB x.ts)++tgB x.tg)++⟨#[59]⟩:=rfl
theorem J3 (s:ByteArray):s++(⟨#[]⟩:ByteArray)=s:=by apply ByteArray.ext; simp [ByteArray.data_append]
theorem headB_nil {x:Tt} (h:x.ev.size=0):headB x=wAuto:=if_pos h
theorem headB_ev {x:Tt} (h:0<x.ev.size):headB x=⟨#[111,110,32]⟩++x.ev:=if_neg (by omega)
theorem Qix (s:ByteArray) (e:Ex):s++guardB (some e)=s++⟨#[32,91]⟩++tx e++⟨#[93]⟩:=by simp only [guardB,ByteArray.append_assoc]
theorem actsB_nil {ts:List Ta} (h:ts.length=0) (s:ByteArray):s++actsB ts=s:=by rw [actsB,if_pos (List.eq_nil_of_length_eq_zero h),J3]
theorem Qjc {ts:List Ta} (h:0<ts.length) (s:ByteArray):s++actsB ts=s++⟨#[32,47,32]⟩++putB ts:=by rw [actsB,if_neg (fun e=>by rw [e] at h; simp at h),ByteArray.append_assoc]
theorem tgB_nil {t:ByteArray} (h:t.size=0) (s:ByteArray):s++tgB t=s:=by rw [tgB,if_pos h,J3]
theorem tgB_some {t:ByteArray} (h:0<t.size) (s:ByteArray):s++tgB t=s++⟨#[32,45,62,32]⟩++t:=by rw [tgB,if_neg (by omega),ByteArray.append_assoc]
theorem trput_any (x:Tt) (hx:x.Ok) (gA:Option Addr) (gn gc:Nat) (aA:Option Addr) (an ac:Nat) (w:World) (h:TrIn w gA gn gc aA an ac x.tr) (hg:SignsIn w) :
 Calls Tryz.prog 67 #[.agg #[.string x.ev,.slice gA gn gc,.slice aA an ac,.string x.tg]] w (RetS w (txT x)):=by
 have hgn:gn=(gFlat x.g).length:=h.len.1;have han:an=x.ts.length:=by rw [h.len.2]; exact List.length_map ..
 obtain ⟨W1,hW1⟩:∃ W1,w.alloc (trO x.ev gA gn gc aA an ac x.tg)=W1:=⟨_,rfl⟩;have hb1:Below w.heap.size w W1:=by rw [<- hW1]; exact KitC.Qh _ _
 have hk1:W1.heap[w.heap.size]?=some (trO x.ev gA gn gc aA an ac x.tg):=by rw [<- hW1]; exact heap_alloc_new _ _
 have HK:=qh (fun W (hW:Below W1.heap.size W1 W)=>Qi (KitC.Qe hk1 hW));have hk0:=Qi hk1
 have HPG:Hid (∀ e,x.g = some e -> ∀ W,Below W1.heap.size W1 W -> Calls Tryz.prog 112 #[.slice gA gn gc,.int .i64 0,.int .i64 1] W (RetS W (tx e))):=qh (fun e he W hW => by
  have h1:=(hx.g e he);have h2:gFlat x.g=flat e:=by rw [he]; rfl
  have h3:Tms w (.slice gA gn gc) (flat e):=by rw [<- h2]; exact h.g
  have h4:=QbM h1.2;have:=Qbg e h1.1 gA gn gc (flat e) 0 [] 1 W ⟨h3.keep (Qa hb1 hW),by rw [hgn,h2],by rw [hgn,h2]; omega,hg.keep (Qa hb1 hW)⟩ (by simp)
  rwa [show bk (lev e<1) (tx e)=tx e from if_neg (by have:=(Qbv h1.1).1; omega)] at this)
 have HPA:Hid (∀ W,Below W1.heap.size W1 W->Calls Tryz.prog 66 #[.slice aA an ac] W (RetS W (putB x.ts))):=qh (fun W hW=>QcD x.ts hx.ts hx.few aA an ac W (h.a.keep (Qa hb1 hW)) (hg.keep (Qa hb1 hW)))
 have HTS:Hid (∀ e,x.g = some e -> (tx e).size <= 1200):=qh (fun e he => by
  have h1:=hx.g e he;have h3:=QO h1.1;have h4:=QbM h1.2;omega)
 have HGN:Hid (gn = 0 ↔ x.g = none):=qh (by
  rw [hgn]
  cases x.g with
  | none => simp [gFlat]
  | some e => simp only [gFlat,reduceCtorEq,iff_false]; exact QgZ e)
 have HPC:=qh (txT_parts x);have HH:=qh (And.intro (fun h=>headB_nil (x:=x) h) (fun h=>headB_ev (x:=x) h));have z1:=QbE hx;have z2:=Qbf hx.g;have z3:=Qec hx.ts hx.few;have z4:=QdU hx.tg;have z5:=Zy hx.ts;have z6:=hx.few;have z7:=Qau hx.ev;have z8:=Qau hx.tg;have hcap:=h.cap;have HSZ:Hid ((headB x).size<=20/\(guardB x.g).size<=1203/\(actsB x.ts).size<=10419/\(tgB x.tg).size<=16/\(putB x.ts).size<=20000):=qh ⟨z1,z2,z3,z4,by omega⟩;have HAN:=qh han
 have hgn40:gn <= 100:=by
  have h9:∀ g:Option Ex,(∀ e,g = some e -> ExprSpec.Good e /\ chk (flat e) = 0) -> (gFlat g).length <= 40:=fun g hh => by
   cases g with
   | none => simp [gFlat]
   | some e => exact QbM (hh e rfl).2
  have:=h9 x.g hx.g;omega
 have han8:an<=8:=by omega
 obtain ⟨R,hR⟩:∃ R,R=txT x:=⟨_,rfl⟩;rw [<- hR] at HPC ⊢;obtain ⟨S,hS⟩:∃ S,S=headB x:=⟨_,rfl⟩;rw [<- hS] at HPC HH HSZ;have HW1:=qh hW1;have HB1:=qh hb1;obtain ⟨ev,g,ts,tg⟩:=x;simp only at HK hk0 HPG HPA HTS HGN HPC HH HSZ HAN HW1 z7 z8 z5 ⊢;clear hgn han hb1 hk1 h hg hx hR hS hW1 z1 z2 z3 z4 z6;obtain ⟨k0,k1,k2,k3⟩:=hk0;go_enter Tryz.func67,Tryz.ntmps67;go_upto_if 7 with fail;rw [HW1.o]
 go_cut [3] from 4 (fun p wx=>StrAt W1 S p wx)
 case first =>
  rcases Nat.eq_zero_or_pos ev.size with h0 | h0
  ·have HE:=qh (HH.o.1 h0)
   have g0:decide (0<ev.size)=false:=decide_eq_false (by omega);clear h0;rw [g0];go_wp2_with fail;go_meet
   case rel=>exact ⟨congrArg Value.string HE.o.symm,Below.refl _ _⟩
  ·have HE:=qh (HH.o.2 h0)
   have g0:decide (0<ev.size)=true:=decide_eq_true (by omega);have q1:¬ 9223372036854775807<3+ev.size:=by omega
   clear h0;rw [g0];go_wp2_with fail;go_meet
   case rel=>exact ⟨congrArg Value.string HE.o.symm,Below.refl _ _⟩
 case rest =>
  obtain ⟨rfl,hbc⟩:=hcut;have HBC:=qh hbc;obtain ⟨c0,c1,c2,c3⟩:=HK.o _ hbc;have hS20:S.size<=20:=HSZ.o.1;clear hbc HH k0 k1 k2 k3;go_upto_if 14 with fail
  go_cut [3] from 4 (fun p wx=>StrAt W1 (S++guardB g) p wx)
  case first =>
   cases g with
   | none =>
     obtain rfl:gn=0:=HGN.o.2 rfl;go_wp2_with fail;go_meet
     case rel=>exact ⟨congrArg Value.string (J3 S).symm,HBC.o⟩
   | some e =>
     have hgp:gn≠0:=fun h=>by cases (HGN.o.1 h)
     have g0:decide (0<gn)=true:=by simp; omega
     have HP:=qh (HPG.o e rfl);have HX:=qh (Qix S e);have hz:=HTS.o e rfl;obtain ⟨y,hy⟩:∃ y,y=tx e:=⟨_,rfl⟩;rw [<- hy] at HP HX hz;have q1:¬ 9223372036854775807<S.size+2:=by omega
     have q2:¬ 9223372036854775807<S.size+2+y.size:=by omega
     have q3:¬ 9223372036854775807<S.size+2+y.size+1:=by omega
     clear hgp hy;rw [g0];go_wp2_with (go_at_call 112; go_fit (HP.o _ HBC.o));rintro e2 w2 ⟨rfl,hb2⟩;have HB2:=qh (Qa HBC.o hb2);clear hb2;go_wp2_with fail;go_meet
     case rel=>exact ⟨congrArg Value.string HX.o.symm,HB2.o⟩
  case rest =>
   obtain ⟨rfl,hbc⟩:=hcut;have HBD:=qh hbc;clear c0 c1 c2 c3;obtain ⟨c0,c1,c2,c3⟩:=HK.o _ hbc;have hS2:(S++guardB g).size<=1300:=by rw [ByteArray.size_append]; have:=HSZ.o.2.1; omega
   obtain ⟨S2,hS⟩:∃ S2,S2=S++guardB g:=⟨_,rfl⟩;rw [<- hS] at HPC hS2 ⊢;clear hbc hS HBC;go_upto_if 25 with fail
   go_cut [3] from 4 (fun p wx=>StrAt W1 (S2++actsB ts) p wx)
   case first =>
    rcases Nat.eq_zero_or_pos an with h0 | h0
    ·have HX:=qh (actsB_nil (ts:=ts) (by have:=HAN.o; omega) S2)
     subst h0;go_wp2_with fail;go_meet
     case rel=>exact ⟨congrArg Value.string HX.o.symm,HBD.o⟩
    ·have HX:=qh (Qjc (ts:=ts) (by have:=HAN.o; omega) S2)
     have g0:decide (0<an)=true:=by simp; omega
     have hz:(putB ts).size<=20000:=HSZ.o.2.2.2.2;obtain ⟨y,hy⟩:∃ y,y=putB ts:=⟨_,rfl⟩;rw [<- hy] at HPA HX hz;have q1:¬ 9223372036854775807<S2.size+3:=by omega
     have q2:¬ 9223372036854775807<S2.size+3+y.size:=by omega
     clear h0 hy z5;rw [g0];go_wp2_with (go_at_call 66; go_fit (HPA.o _ HBD.o));rintro e2 w2 ⟨rfl,hb2⟩;have HB2:=qh (Qa HBD.o hb2);clear hb2;go_wp2_with fail;go_meet
     case rel=>exact ⟨congrArg Value.string HX.o.symm,HB2.o⟩
   case rest =>
    obtain ⟨rfl,hbc⟩:=hcut;have HBE:=qh hbc;clear c0 c1 c2 c3;obtain ⟨c0,c1,c2,c3⟩:=HK.o _ hbc;have hS3:(S2++actsB ts).size<=12000:=by rw [ByteArray.size_append]; have:=HSZ.o.2.2.1; omega
    obtain ⟨S3,hS⟩:∃ S3,S3=S2++actsB ts:=⟨_,rfl⟩;rw [<- hS] at HPC hS3 ⊢;clear hbc hS HBD z5
    rcases Nat.eq_zero_or_pos tg.size with h0 | h0
    ·have HX:Hid (R = S3 ++ ⟨#[59]⟩):=qh (by rw [HPC.o,tgB_nil h0])
     have g0:decide (0<tg.size)=false:=decide_eq_false (by omega);have q1:¬ 9223372036854775807<S3.size+1:=by omega
     clear h0 HPC;go_wp2_with fail;go_ret;exact ⟨by rw [HX.o]; rfl,Qa HB1.o HBE.o⟩
    ·have HX:Hid (R = S3 ++ ⟨#[32,45,62,32]⟩ ++ tg ++ ⟨#[59]⟩):=qh (by rw [HPC.o,tgB_some h0])
     have g0:decide (0<tg.size)=true:=decide_eq_true (by omega);have q1:¬ 9223372036854775807<S3.size+4:=by omega
     have q2:¬ 9223372036854775807<S3.size+4+tg.size:=by omega
     have q3:¬ 9223372036854775807<S3.size+4+tg.size+1:=by omega
     clear h0 HPC;go_wp2_with fail;go_ret;exact ⟨by rw [HX.o]; rfl,Qa HB1.o HBE.o⟩
end
section
open Go.RowKit Go.Sort CurSpec TermSpec EvalSpec ActSpec NamesSpec ExprSpec TransSpec SynSpec PrintSpec
open ShapeSpec (Sh up sf endOf SU)
theorem bsT (s:ByteArray):bs (T s)=s:=by apply ByteArray.ext; simp [bs]
theorem putB_bs (ts:List Ta):putB ts=bs (putT ts):=rfl
theorem stT_at (sh:List Sh) {l:List Ts} {i:Nat} {t:Ts} (h:l[i]? = some t):PrintSpec.stT sh l i = if emptyB sh l i then inT ((up sh i).length + 1) ++ ((headT t ++ [59]) ++ [10]) else inT ((up sh i).length + 1) ++ ((headT t ++ [32,123]) ++ [10]) ++ insT ((up sh i).length + 2) t:=by
 unfold PrintSpec.stT;rw [h]
 rfl
theorem head_bs (n:Nat) (t:Ts) (_hk:1 <= t.kind /\ t.kind <= 3):bs (inT n ++ headT t) = bs (inT n) ++ (if t.kind = 1 then ⟨#[108,101,97,102,32]⟩ else if t.kind = 2 then ⟨#[111,114,32]⟩ else ⟨#[97,110,100,32]⟩) ++ t.s:=by
 unfold headT wordT
 split
 ·rw [show (⟨#[108,101,97,102,32]⟩:ByteArray) = bs [108,101,97,102,32] from rfl]
  conv=>rhs; rw [<- bsT t.s]
  rw [QX,QX];simp
 ·split
  ·rw [show (⟨#[111,114,32]⟩:ByteArray) = bs [111,114,32] from rfl]
   conv=>rhs; rw [<- bsT t.s]
   rw [QX,QX];simp
  ·rw [show (⟨#[97,110,100,32]⟩:ByteArray) = bs [97,110,100,32] from rfl]
   conv=>rhs; rw [<- bsT t.s]
   rw [QX,QX];simp
theorem line_bs (S:ByteArray) (w:List UInt8) (n:Nat) {ts:List Ta} (h:ts ≠ []):S ++ bs (lineA w n ts) = S ++ bs (inT n) ++ bs (w ++ [32]) ++ putB ts ++ ⟨#[59,10]⟩:=by
 unfold lineA;rw [if_neg h,putB_bs,show (⟨#[59,10]⟩:ByteArray)=bs [59,10] from rfl,ByteArray.append_assoc,ByteArray.append_assoc,ByteArray.append_assoc,QX,QX,QX]
 congr 2
 simp
theorem Qhn (S:ByteArray) (w:List UInt8) (n:Nat) {ts:List Ta} (h:ts.length = 0):S ++ bs (lineA w n ts) = S:=by
 unfold lineA;rw [if_pos (List.eq_nil_of_length_eq_zero h)];exact J3 S
theorem tr_next (S:ByteArray) (n:Nat) {l:List Tt} {k:Nat} {t:Tt} (h:l[k]? = some t):S ++ bs ((l.take (k + 1)).flatMap (lineT n)) = S ++ bs ((l.take k).flatMap (lineT n)) ++ bs (inT n) ++ txT t ++ ⟨#[10]⟩:=by
 rw [QA h,List.flatMap_append,show (⟨#[10]⟩:ByteArray)=bs [10] from rfl]
 conv=>rhs; rw [<- bsT (txT t)]
 rw [ByteArray.append_assoc,ByteArray.append_assoc,ByteArray.append_assoc,QX,QX,QX]
 congr 2
 simp [lineT]
end
end Go.Proofs.YtbdalbpackfejaaGreatDoor
