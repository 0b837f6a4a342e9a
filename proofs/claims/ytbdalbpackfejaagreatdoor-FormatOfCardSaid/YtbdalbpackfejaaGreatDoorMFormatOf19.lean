/- PrintFits, PrintState2, PrintText, ShapeKids, TransPcs, TransPieces, TransPut, ExprRefLevel, joined. -/
import Derived.Test.YtbdalbpackfejaaGreatDoorMFormatOf17
import Derived.Test.YtbdalbpackfejaaGreatDoorMFormatOf18
set_option maxHeartbeats 16000000
set_option maxRecDepth 100000
namespace Go.Proofs.YtbdalbpackfejaaGreatDoor
section
open Go.RowKit CurSpec TermSpec EvalSpec ActSpec NamesSpec ExprSpec TransSpec SynSpec PrintSpec
theorem Qak:(⟨#[]⟩:ByteArray).size<=9223372036854775807:=by decide
theorem Qal:∀ {e:Ex},ExprSpec.Good e -> Small (flat e)
 | .leaf t,h => by
   intro x hx;rw [show flat (.leaf t)=[t] from rfl,List.mem_singleton] at hx;subst hx
   rcases Qa3 h.1 with h1 | h1 | h1 | h1 | h1
   ·rw [(Qdw h1 h.2).2]; exact Qak
   ·have:=QG (ExprSpec.JS (.inl h1) h.2).1
    omega
   ·rw [Qip (.inl h1) h.2]; exact Qak
   ·rw [Qip (.inr h1) h.2]; exact Qak
   ·have:=QG (ExprSpec.JS (.inr h1) h.2).1
    omega
 | .un o a,h => by
   intro x hx;rw [show flat (.un o a)=opT o::flat a from rfl,List.mem_cons] at hx
   rcases hx with rfl | hx
   ·exact Qak
   ·exact Qal h.2 x hx
 | .bin o a b,h => by
   intro x hx;rw [show flat (.bin o a b)=opT o::(flat a++flat b) from rfl,List.mem_cons,List.mem_append] at hx
   rcases hx with rfl | hx | hx
   ·exact Qak
   ·exact Qal h.2.1 x hx
   ·exact Qal h.2.2 x hx
theorem QhO {e:Ex} (h:chk (flat e)=0):(flat e).length<=40:=(Q6.1 (ZE h).1).1
theorem act_fits {t:Ta} (h:t.Ok):SmallA t.ac:=by
 refine ⟨by have:=QG h.1; show t.s.size<=_; omega,?_,?_⟩
 ·show Small (if t.any then [] else flat t.e)
  rcases ha:t.any with _ | _
  ·exact Qal (h.2 ha).1
  ·intro x hx; simp at hx
 ·show (if t.any then [] else flat t.e).length <= _
  rcases ha:t.any with _ | _
  ·have:=QhO (h.2 ha).2
   simp only [Bool.false_eq_true,if_false];omega
  ·simp
theorem Qcg {ts:List Ta} (h:∀ t ∈ ts,t.Ok):∀ a ∈ ts.map Ta.ac,SmallA a:=by
 intro a ha;obtain ⟨t,ht,rfl⟩:=List.mem_map.1 ha;exact act_fits (h t ht)
theorem QeB {x:Tt} (h:x.Ok):SmallT x.tr where
 ev:=by have:=Qau h.ev; show x.ev.size<=_; omega
 tg:=by have:=Qau h.tg; show x.tg.size<=_; omega
 g:=by
  show Small (gFlat x.g)
  have hx:=h.g
  cases hx':x.g with
  | none => intro t ht; simp [gFlat] at ht
  | some e => exact Qal (hx e hx').1
 glen:=by
  show (gFlat x.g).length<=_
  have hx:=h.g
  cases hx':x.g with
  | none => simp [gFlat]
  | some e => have:=QhO (hx e hx').2; show (flat e).length <= _; omega
 acts:=Qcg h.ts
 alen:=by have:=h.few; show (x.ts.map Ta.ac).length<=_; rw [List.length_map]; omega
theorem QiK {c:Tc} (h:c.Ok):FitM c.cx where
 s:=by have:=QG h.nm; show c.s.size<=_; omega
 evs:=fun e he=>by have:=QG (h.evs e he); omega
 vars:=fun v hv => by
  have:=h.vars v hv;simp only [okV,Bool.and_eq_true] at this;have:=QG this.1;omega
 stl:=by have:=h.stand.few; have:=h.stand.len; show (c.sts.map Ts.sx).length<=_; rw [List.length_map]; omega
 sts:=fun s hs => by
  obtain ⟨t,ht,rfl⟩:=List.mem_map.1 (show s∈c.sts.map Ts.sx from hs);have hk:=h.sts t ht;have h1:=hk.enf;have h2:=hk.exf;have h3:=hk.trf;refine ⟨by have:=QG hk.nm; show t.s.size<=_; omega,Qcg hk.en,?_,Qcg hk.ex,?_,?_,?_⟩
  ·show (t.en.map Ta.ac).length<=_; rw [List.length_map]; omega
  ·show (t.ex.map Ta.ac).length<=_; rw [List.length_map]; omega
  ·show (t.tr.map Tt.tr).length<=_; rw [List.length_map]; omega
  ·intro x hx
   obtain ⟨u,hu,rfl⟩:=List.mem_map.1 (show x∈t.tr.map Tt.tr from hx);exact QeB (hk.tr u hu)
end
section
open Go.RowKit CurSpec TermSpec EvalSpec ActSpec NamesSpec ExprSpec TransSpec SynSpec PrintSpec
set_option maxRecDepth 100000
theorem ZQ (b n:Nat) (l:List UInt8) (ps:List ByteArray) (cs:Array Value) (k m:Nat) (W:World) (hk:k = W.heap.size) (h:WrAt b n l W) (hcs:cs = (strV ps).toArray) (hm:m = ps.length) (hn:n <= 20) (hps:m <= 100)
 (hlen:l.length+(lnT n ps).length<=140737488355328):Calls Tryz.prog 50 #[.pointer (some ⟨b,0,none⟩),.slice (some ⟨k,0,none⟩) m m] (W.alloc (.cells cs 9)) (RetWr W b n (l++lnT n ps)):=by
 subst hcs;subst hk;have hlt:=h.lt;refine (line_any b n l ps W.heap.size m m _ (h.keep (KitC.Qh _ _)) (heap_alloc_new _ _) (by omega) hm hn hps (Nat.le_refl _) hlen).mono ?_;rintro e w' ⟨rfl,h1,h2⟩;exact ⟨rfl,h1,(Wrote.of hlt (KitC.Qh _ _)).trans h2⟩
theorem QgN (l:List (List UInt8)):Lib.join l [] = l.flatten:=by
 cases l with
 | nil => rfl
 | cons a r => rw [Lib.join_cons]; simp [Lib.joinTail]
def endT (n:Nat):List UInt8:=inT n++([125]++[10])
theorem end_ln (n:Nat):lnT n [⟨#[125]⟩] = endT n:=by
 unfold lnT endT;simp [T]
theorem Qhh (b n:Nat) (l:List UInt8) (w:World) (h:WrAt b ((n + 1:Nat):Int) l w) (hn:n <= 20) (hlen:l.length + (endT n).length <= 140737488355328) :
 Calls Tryz.prog 54 #[.pointer (some ⟨b,0,none⟩)] w (RetWr w b n (l++endT n)):=by
 rw [<- end_ln] at hlen ⊢;obtain ⟨c2,f2⟩:=h.open_;obtain ⟨h1,h2⟩:=wr_open h n;have HX:=qh h2;have HC:=qh (ZQ b n l [⟨#[125]⟩] #[.string ⟨#[125]⟩] w.heap.size 1 _ (by simp [World.setCell]) h1 rfl rfl hn (by omega) hlen);have ho:((n+1:Nat):Int)=(n:Int)+1:=by omega
 rw [ho] at c2;have hn':(n:Int)<=20:=by omega
 clear h h1 h2 hlen hn ho;go_enter Tryz.func54,Tryz.ntmps54;go_wp2_with (go_at_call 50; go_fit HC.o);rintro e w3 ⟨rfl,h3,hx3⟩;have HW4:=qh h3;have HX4:=qh (HX.o.trans hx3);clear h3 hx3;go_wp2_with fail
 go_end0
 exact ⟨rfl,HW4.o,HX4.o⟩
def begT (n:Nat) (ps:List ByteArray):List UInt8:=inT n++(ps.flatMap T++[32,123]++[10])
theorem beg_ln (n:Nat) (ps:List ByteArray):lnT n [bs (ps.flatMap T),⟨#[32,123]⟩] = begT n ps:=by
 unfold lnT begT;simp [T,bs]
theorem join_any (ps:List ByteArray) (k c m:Nat) (w:World) (hk:w.heap[k]? = some (.cells (strV ps).toArray 9 (0,0))) (hm:m = ps.length) (hc:m <= c) (hps:m <= 100) (hlen:(ps.flatMap T).length <= 140737488355328) :
 Calls Tryz.prog 51 #[.slice (some ⟨k,0,none⟩) m c,.string ⟨#[]⟩] w (RetS w (bs (ps.flatMap T))):=by
 subst hm
 have e:Lib.join (ps.map (·.data.toList)) (⟨#[]⟩:ByteArray).data.toList = ps.flatMap T:=by
  show Lib.join _ []=_
  rw [QgN,List.flatMap_def]
 have h:=Tryz.strings_Join k 0 c ps ⟨#[]⟩ w (fun j x hx=>by rw [Nat.zero_add]; exact Qb hk (by simp [strV,hx])) (Array.getElem?_eq_some_iff.1 hk).1 (by omega) hc (by rw [e]; exact hlen);rw [e] at h;exact h
theorem beg_lit (b n:Nat) (l:List UInt8) (ps:List ByteArray) (cs:Array Value) (k m:Nat) (W:World) (hk:k = W.heap.size) (h:WrAt b n l W) (hcs:cs = (strV ps).toArray) (hm:m = ps.length) (hn:n <= 20) (hps:m <= 100)
 (hlen:l.length+(begT n ps).length<=140737488355328):Calls Tryz.prog 49 #[.pointer (some ⟨b,0,none⟩),.slice (some ⟨k,0,none⟩) m m] (W.alloc (.cells cs 9)) (RetWr W b ((n+1:Nat):Int) (l++begT n ps)):=by
 subst hcs;subst hk;have hlt:=h.lt
 have hjl:(ps.flatMap T).length <= 140737488355328:=by
  unfold begT at hlen;simp only [List.length_append] at hlen;omega
 obtain ⟨W1,hW1⟩:∃ W1,W1=W.alloc (.cells (strV ps).toArray 9):=⟨_,rfl⟩;have hb1:Below W.heap.size W W1:=by rw [hW1]; exact KitC.Qh _ _
 have hk1:W1.heap[W.heap.size]?=some (.cells (strV ps).toArray 9 (0,0)):=by rw [hW1]; exact heap_alloc_new _ _
 obtain ⟨k,hk⟩:∃ k,k=W.heap.size:=⟨_,rfl⟩;have HJ:=qh (join_any ps k m m W1 (by rw [hk]; exact hk1) hm (Nat.le_refl _) hps hjl);rw [<- hW1,<- hk];obtain ⟨J,hJ⟩:∃ J,J=bs (ps.flatMap T):=⟨_,rfl⟩;have HE:Hid (lnT n [J,⟨#[32,123]⟩]=begT n ps):=qh (by rw [hJ]; exact beg_ln n ps);rw [<- hJ] at HJ
 have HC:Hid (∀ w2,Below W.heap.size W w2 -> Calls Tryz.prog 50 #[.pointer (some ⟨b,0,none⟩),.slice (some ⟨w2.heap.size,0,none⟩) 2 2] (w2.alloc (.cells #[.string J,.string ⟨#[32,123]⟩] 9)) (RetWr w2 b n (l ++ begT n ps))):=qh fun w2 hb2 => by
  rw [<- HE.o];exact ZQ b n l [J,⟨#[32,123]⟩] _ w2.heap.size 2 w2 rfl (h.keep hb2) rfl rfl hn (by omega) (by rw [HE.o]; exact hlen)
 have HB1:=qh hb1;have HLT:=qh hlt;have hn':(n:Int)<=20:=by omega
 clear h hW1 hb1 hk1 hk hJ hlen hjl hm hps hlt;go_enter Tryz.func49,Tryz.ntmps49;go_wp2_with (go_at_call 51; go_fit HJ.o);rintro e w2 ⟨rfl,hb2⟩;have HB2:=qh (Qa HB1.o hb2);clear hb2;go_wp2_with (go_at_call 50; go_fit (HC.o _ HB2.o));rintro e w3 ⟨rfl,h3,hx3⟩;obtain ⟨c2,f2⟩:=h3.open_;have HO:=qh (wr_open h3 ((n:Int)+1));have HX:=qh ((Wrote.of HLT.o HB2.o).trans hx3);clear h3 hx3;go_wp2_with fail
 go_end0
 exact ⟨rfl,by rw [show ((n+1:Nat):Int)=(n:Int)+1 by omega]; exact HO.o.1,HX.o.trans HO.o.2⟩
theorem line_ln (n:Nat) (w:ByteArray) (ts:List Ta) (h:ts ≠ []):lnT n [w,⟨#[32]⟩,putB ts,⟨#[59]⟩] = lineA w.data.toList n ts:=by
 unfold lnT lineA;rw [if_neg h,<- putB_T];simp [T]
theorem QfF (b n:Nat) (l:List UInt8) (what:ByteArray) (A:Option Addr) (an c:Nat) (ts:List Ta) (w:World) (h:WrAt b n l w) (ha:Acs w (.slice A an c) (ts.map Ta.ac)) (ok:∀ t ∈ ts,t.Ok) (h8:ts.length <= 8) (hg:SignsIn w) (hn:n <= 20)
 (hlen:l.length+(lineA what.data.toList n ts).length<=140737488355328):Calls Tryz.prog 102 #[.pointer (some ⟨b,0,none⟩),.string what,.slice A an c] w (RetWr w b n (l++lineA what.data.toList n ts)):=by
 have han:an=ts.length:=by rw [ha.len.1]; exact List.length_map _
 rcases Nat.eq_zero_or_pos an with h0 | h0
 ·have hts:ts = []:=List.eq_nil_of_length_eq_zero (by omega)
  subst hts;have HW:Hid (WrAt b n (l++lineA what.data.toList n []) w):=qh (by unfold lineA; rw [if_pos rfl,List.append_nil]; exact h);subst h0;clear h ha ok h8 hg han hlen;go_enter Tryz.func102,Tryz.ntmps102;go_wp2_with fail
  go_end0
  exact ⟨rfl,HW.o,Wrote.refl _ _⟩
 ·have hne:ts ≠ []:=fun e => by rw [e] at han; simp at han; omega
  have hE:=line_ln n what ts hne;have HP:=qh ((Qh1 A an c _ (Qcg ok) (by rw [List.length_map]; omega) w ha hg).2 ts rfl ok (Qev ok h8));obtain ⟨R,hR⟩:∃ R,R=putB ts:=⟨_,rfl⟩;rw [<- hR] at hE HP
  have HC:Hid (∀ w2,Below w.heap.size w w2 -> Calls Tryz.prog 50 #[.pointer (some ⟨b,0,none⟩),.slice (some ⟨w2.heap.size,0,none⟩) 4 4] (w2.alloc (.cells #[.string what,.string ⟨#[32]⟩,.string R,.string ⟨#[59]⟩] 9)) (RetWr w2 b n (l ++ lineA what.data.toList n ts))):=qh fun w2 hb2 => by
   rw [<- hE];exact ZQ b n l [what,⟨#[32]⟩,R,⟨#[59]⟩] _ w2.heap.size 4 w2 rfl (h.keep hb2) rfl rfl hn (by omega) (by rw [hE]; exact hlen)
  have HLT:=qh h.lt;have g0:decide (0<an)=true:=decide_eq_true h0;clear h ha ok h8 hg han hlen hn hne hE hR h0;go_enter Tryz.func102,Tryz.ntmps102;go_wp2_with (go_at_call 138; go_fit HP.o);rintro e w2 ⟨rfl,hb2⟩;have HB2:=qh hb2;clear hb2;go_wp2_with (go_at_call 50; go_fit (HC.o _ HB2.o));rintro e w3 ⟨rfl,h3,hx3⟩;have HW:=qh h3;have HX:=qh ((Wrote.of HLT.o HB2.o).trans hx3);clear h3 hx3;go_wp2_with fail
  go_end0
  exact ⟨rfl,HW.o,HX.o⟩
theorem word_any (k:Int) (w:World):Calls Tryz.prog 101 #[.int .i64 k] w (SameS w (bs (wordT k))):=by
 unfold wordT
 by_cases h1:k=1
 ·subst h1
  go_enter Tryz.func101,Tryz.ntmps101;go_wp2_with fail;go_ret;exact ⟨rfl,rfl⟩
 ·by_cases h2:k = 2
  ·subst h2
   go_enter Tryz.func101,Tryz.ntmps101;go_wp2_with fail;go_ret;exact ⟨rfl,rfl⟩
  ·rw [if_neg h1,if_neg h2]
   have g1:(k==1)=false:=by simpa using h1
   have g2:(k==2)=false:=by simpa using h2
   clear h1 h2;go_enter Tryz.func101,Tryz.ntmps101;go_wp2_with fail;go_ret;exact ⟨rfl,rfl⟩
end
section
namespace PrintSpec
open CurSpec TermSpec EvalSpec NamesSpec ExprSpec ScanSpec ActSpec TransSpec SynSpec
open ShapeSpec (Sh up sf endOf SU)
section
variable (sh:List Sh) (l:List Ts)
def clU (i0 m:Nat):List UInt8:=((sf sh m).filter fun j=>decide (i0<=j)).flatMap (oneT sh l m)
def bodyU (i0 m:Nat):List UInt8:=stT sh l m++clU sh l i0 m
def segU (i0 a b:Nat):List UInt8:=(List.range' a (b-a)).flatMap (bodyU sh l i0)
def shutU (i:Nat):List UInt8:=if emptyB sh l i=false then inT ((up sh i).length+1)++([125]++[10]) else []
end
section
variable {sh:List Sh} {l:List Ts}
theorem Qib (i0 a:Nat):segU sh l i0 a a=[]:=by unfold segU; rw [Nat.sub_self]; rfl
theorem QbU (i0:Nat) {a b c:Nat} (h1:a <= b) (h2:b <= c):segU sh l i0 a c = segU sh l i0 a b ++ segU sh l i0 b c:=by
 unfold segU;rw [<- List.flatMap_append,show c-a=(b-a)+(c-b) by omega,<- List.range'_append_1,show a+(b-a)=b by omega]
theorem QeO (i0 a:Nat):segU sh l i0 a (a + 1) = bodyU sh l i0 a:=by
 unfold segU;rw [show a+1-a=1 by omega];simp
theorem QdW {i0 i1 a b:Nat} (h:∀ m,a <= m -> m < b -> clU sh l i0 m = clU sh l i1 m):segU sh l i0 a b = segU sh l i1 a b:=by
 unfold segU;rw [List.flatMap_def,List.flatMap_def]
 congr 1
 refine List.map_congr_left fun m hm=>?_
 have:=List.mem_range'_1.1 hm;unfold bodyU;rw [h m this.1 (by omega)]
theorem stsT_seg (hl:sh.length = l.length):stsT sh l = segU sh l 0 0 sh.length:=by
 unfold stsT segU;rw [hl,Nat.sub_zero,List.range_eq_range'];rw [List.flatMap_def,List.flatMap_def]
 congr 1
 refine List.map_congr_left fun m _=>?_
 unfold bodyU clU closT;rw [List.filter_eq_self.2 (fun j _=>by simp)]
theorem Qhl {i m:Nat} (h:i ∈ sf sh m):clU sh l i m = clU sh l (i + 1) m ++ oneT sh l m i:=by
 unfold clU;rw [Qdj (sf_desc sh m) h,List.flatMap_append];simp
theorem clU_none (i:Nat):clU sh l (i + 1) i = []:=by
 unfold clU;rw [List.filter_eq_nil_iff.2 fun j hj=>by have:=ShapeSpec.Qaf hj; simp; omega]
 rfl
theorem Qjw (h:SU sh sh.length) {i:Nat} (hi:i < sh.length):segU sh l i i (endOf sh i) = stT sh l i ++ (segU sh l (i + 1) (i + 1) (endOf sh i) ++ shutU sh l i):=by
 obtain ⟨e1,e2⟩:=ShapeSpec.J9 hi;obtain ⟨e,he⟩:∃ e,e=endOf sh i:=⟨_,rfl⟩;rw [<- he] at e1 e2 ⊢;have hin:∀ m,i<=m->m<e->i∈sf sh m:=fun m h1 h2=>(ShapeSpec.Zo h hi (by omega)).2 ⟨h1,by omega⟩
 have hno:∀ m,i <= m -> m + 1 < e -> clU sh l i m = clU sh l (i + 1) m:=fun m h1 h2 => by
  rw [Qhl (hin m h1 (by omega))];unfold oneT;rw [if_neg (by omega),List.append_nil]
 have hla:clU sh l i (e - 1) = clU sh l (i + 1) (e - 1) ++ shutU sh l i:=by
  rw [Qhl (hin (e-1) (by omega) (by omega))];unfold oneT shutU
  by_cases hb:emptyB sh l i=false
  ·rw [if_pos ⟨by omega,hb⟩,if_pos hb]
  ·rw [if_neg (fun h'=>hb h'.2),if_neg hb]
 have h1:segU sh l i i e = segU sh l (i + 1) i e ++ shutU sh l i:=by
  rw [QbU i (b:=e-1) (by omega) (by omega),QbU (i+1) (a:=i) (b:=e-1) (c:=e) (by omega) (by omega),QdW (i0:=i) (i1:=i+1) (a:=i) (b:=e-1) (fun m a b=>hno m a (by omega))]
  have hs:segU sh l i (e - 1) e = segU sh l (i + 1) (e - 1) e ++ shutU sh l i:=by
   have e':e=(e-1)+1:=by omega
   rw [e',Nat.add_sub_cancel,QeO,QeO];unfold bodyU;rw [hla,List.append_assoc]
  rw [hs,List.append_assoc]
 rw [h1,QbU (i+1) (a:=i) (b:=i+1) (by omega) (by omega),QeO];unfold bodyU;rw [clU_none,List.append_nil,List.append_assoc]
theorem segU_kid (h:SU sh sh.length) {i m:Nat} (hm:m < sh.length) (hup:up sh m = sf sh i):segU sh l (i + 1) m (endOf sh m) = segU sh l m m (endOf sh m):=by
 refine QdW fun k h1 h2=>?_
 have hk:m∈sf sh k:=(ShapeSpec.Zo h hm (by have:=(ShapeSpec.J9 hm).2; omega)).2 ⟨h1,h2⟩;unfold clU
 congr 1
 refine List.filter_congr fun j hj=>?_
 have him:i<m:=ShapeSpec.Qfr (l:=sh) (i:=m) (j:=i) (by rw [hup]; exact ShapeSpec.Zv _ _)
 by_cases hjm:m<=j
 ·simp [hjm]; omega
 ·have h3:=ShapeSpec.Qd2 hk hj (by omega)
  have h4:=ShapeSpec.QaS h3 (by omega);rw [hup] at h4;have:=ShapeSpec.Qaf h4;have e1:¬ i+1<=j:=by omega
  simp [hjm,e1]
def stX (sh:List Sh) (l:List Ts) (i:Nat):List UInt8:=segU sh l i i (endOf sh i)
def kidN (sh:List Sh) (i m:Nat):List Nat:=(List.range' m (sh.length-m)).filter fun k=>decide (ShapeSpec.par sh k=i)
theorem QfW (i:Nat):ShapeSpec.kids sh i = (kidN sh i 0).map Int.ofNat:=by
 unfold ShapeSpec.kids ShapeSpec.kidsTo kidN;rw [List.range_eq_range',Nat.sub_zero]
theorem QfL (h:SU sh sh.length) {i:Nat} (hi:i < sh.length):kidN sh i (endOf sh i) = []:=by
 unfold kidN;rw [List.filter_eq_nil_iff];intro k hk;obtain ⟨h1,h2⟩:=List.mem_range'_1.1 hk;simp only [decide_eq_true_eq];intro hp;have e1:=ShapeSpec.J9 hi;have hup:up sh k=sf sh i:=ShapeSpec.QfE hp (by omega);have:=(ShapeSpec.Zo h hi (k:=k) (by omega)).1 (ShapeSpec.Qde (by rw [hup]; exact ShapeSpec.Zv _ _));omega
theorem QdM (h:SU sh sh.length) {i:Nat} (hi:i < sh.length):kidN sh i 0 = kidN sh i (i + 1):=by
 unfold kidN;have e:sh.length-0=(i+1)+(sh.length-(i+1)):=by omega
 rw [e,<- List.range'_append_1,List.filter_append,Nat.zero_add,List.filter_eq_nil_iff.2,List.nil_append];intro k hk;obtain ⟨h1,h2⟩:=List.mem_range'_1.1 hk;simp only [decide_eq_true_eq];intro hp
 rcases Nat.eq_zero_or_pos k with rfl | h0
 ·have:=h.root (by omega)
  rw [hp] at this;omega
 ·have:=(h.par (by omega) h0).2.1
  omega
theorem kidN_step (h:SU sh sh.length) {i m:Nat} (hm:m < sh.length) (hp:ShapeSpec.par sh m = i) (him:i < m):kidN sh i m = m :: kidN sh i (endOf sh m):=by
 obtain ⟨e1,e2⟩:=ShapeSpec.J9 hm;have hup:up sh m=sf sh i:=ShapeSpec.QfE hp him;unfold kidN;have e:sh.length-m=1+((endOf sh m-(m+1))+(sh.length-endOf sh m)):=by omega
 rw [e,<- List.range'_append_1,<- List.range'_append_1,show m+1+(endOf sh m-(m+1))=endOf sh m by omega,List.filter_append,List.filter_append];have h1:(List.range' m 1).filter (fun k=>decide (ShapeSpec.par sh k=i))=[m]:=by simp [hp]
 have h2:(List.range' (m + 1) (endOf sh m - (m + 1))).filter (fun k => decide (ShapeSpec.par sh k = i)) = []:=by
  rw [List.filter_eq_nil_iff];intro k hk;obtain ⟨k1,k2⟩:=List.mem_range'_1.1 hk;simp only [decide_eq_true_eq];intro hpk;have hupk:up sh k=sf sh i:=ShapeSpec.QfE hpk (by omega);have hin:=ShapeSpec.QaS ((ShapeSpec.Zo h hm (k:=k) (by omega)).2 ⟨by omega,by omega⟩) (by omega);rw [hupk] at hin;have:=ShapeSpec.Qaf hin;omega
 rw [h1,h2]
 rfl
theorem kids_text (h:SU sh sh.length) {i:Nat} (hi:i < sh.length):∀ (n m:Nat),endOf sh i - m <= n -> i < m -> m <= endOf sh i -> (m < endOf sh i -> up sh m = sf sh i /\ ShapeSpec.par sh m = i) -> segU sh l (i + 1) m (endOf sh i) = (kidN sh i m).flatMap (stX sh l):=by
 intro n
 induction n with
 | zero =>
   intro m h1 h2 h3 _;obtain rfl:m=endOf sh i:=by omega
   rw [Qib,QfL h hi]
   rfl
 | succ n ih =>
   intro m h1 h2 h3 h4
   rcases Nat.lt_or_ge m (endOf sh i) with hlt | hge
   ·obtain ⟨hup,hpar⟩:=h4 hlt
    obtain ⟨hml,hee,hnext⟩:=kid_next h hi hlt hup h2;have e1:=ShapeSpec.J9 hml;rw [QbU (i+1) (a:=m) (b:=endOf sh m) (by omega) hee,segU_kid h hml hup,kidN_step h hml hpar h2,List.flatMap_cons,ih (endOf sh m) (by omega) (by omega) hee hnext]
    rfl
   ·obtain rfl:m = endOf sh i:=by omega
    rw [Qib,QfL h hi]
    rfl
theorem stX_eq (h:SU sh sh.length) {i:Nat} (hi:i < sh.length):stX sh l i = stT sh l i ++ ((kidN sh i 0).flatMap (stX sh l) ++ shutU sh l i):=by
 have e1:=ShapeSpec.J9 hi;unfold stX;rw [Qjw h hi,kids_text h hi (endOf sh i-(i+1)) (i+1) (Nat.le_refl _) (by omega) (by omega) (fun hlt=>⟨(QcJ h hi hlt).1,(QcJ h hi hlt).2.1⟩),QdM h hi]
 rfl
theorem end_root (h:SU sh sh.length) (hpos:0 < sh.length):endOf sh 0 = sh.length:=by
 have:=ShapeSpec.J9 hpos
 rcases Nat.lt_or_ge (endOf sh 0) sh.length with hlt | hge
 ·exfalso
  have hin:0 ∈ sf sh (endOf sh 0):=by
   have key:∀ n k,k <= n -> k < sh.length -> 0 ∈ sf sh k:=by
    intro n
    induction n with
    | zero => intro k hk _; obtain rfl:k = 0:=by omega
              exact ShapeSpec.Zv _ _
    | succ n ih =>
      intro k hk hkl
      rcases Nat.eq_zero_or_pos k with rfl | h0
      ·exact ShapeSpec.Zv _ _
      ·obtain ⟨p,-,hpl,hup,-⟩:=h.parn hkl h0
       refine ShapeSpec.Qde ?_;rw [hup];exact ih p (by omega) (by omega)
   exact key _ _ (Nat.le_refl _) hlt
  have:=(ShapeSpec.Zo h hpos hlt).1 hin;omega
 ·omega
theorem stsT_X (h:SU sh sh.length) (hl:sh.length = l.length) (hpos:0 < sh.length):stsT sh l = stX sh l 0:=by
 rw [stsT_seg hl];unfold stX;rw [end_root h hpos]
theorem kidN_mem (h:SU sh sh.length) {i k:Nat} (hi:i < sh.length) (hk:k ∈ kidN sh i 0):i < k /\ k < sh.length /\ (up sh k).length = (up sh i).length + 1:=by
 have hk':=hk;rw [QdM h hi] at hk';unfold kidN at hk';obtain ⟨h1,h2⟩:=List.mem_filter.1 hk';obtain ⟨h3,h4⟩:=List.mem_range'_1.1 h1;have hp:ShapeSpec.par sh k=i:=by simpa using h2
 refine ⟨by omega,by omega,?_⟩;rw [ShapeSpec.QfE hp (by omega)]
 rfl
end
end PrintSpec
end
section
open Go.RowKit ShapeSpec
set_option maxRecDepth 100000
def RetRowI (W:World) (xs:List Int) (e:Ending) (w':World):Prop:=∃ A n c,e = .returned (.slice A n c)/\n=xs.length/\RowI W w' (.slice A n c) xs
def KidQ (W:World) (l:List Sh) (i n:Nat) (p v:Value) (wr:World):Prop:=∃ k:Nat,k<=n/\v = .int .i64 k/\RowI W wr p (kidsTo l i k)
theorem Qi1 (A:Option Addr) (n c:Nat) (l:List Sh) (i:Int) (w:World) (h:Sts w (.slice A n c) l) (hm:n <= 9223372036854775807) :
 Calls Tryz.prog 100 #[.slice A n c,.int .i64 i] w (RetRowI w (kidsA l i)):=by
 have hn:=h.len;have HH:=qh (has_any A n c l i w h hm)
 cases hb:hasB l i with
 | false =>
   rw [hb] at HH;have HE:Hid (kidsA l i=[]):=qh (if_neg (by simp [hb]));rw [HE.o];clear h hn hb HE;go_enter Tryz.func100,Tryz.ntmps100;go_wp2_with (go_at_call 137; go_fit HH.o);rintro e w1 ⟨rfl,hb1⟩;go_wp2_with fail;go_ret;exact ⟨none,0,0,rfl,rfl,RowI.nil _ _ hb1⟩
 | true =>
   rw [hb] at HH;obtain ⟨a,rfl,ha,han,hn60,hsu⟩:=has_at hn hb;have HE:Hid (kidsA l (a:Int)=kidsTo l a n):=qh (by unfold kidsA; rw [if_pos hb,hn]; rfl);rw [HE.o];have HT:=qh h;have HN:=qh hn;obtain ⟨i0,hi,hz0,hz1,hz2⟩:=info_parts QaK;have HI:=qh (And.intro hi (And.intro hz0 (And.intro hz1 hz2)));clear h hn hb HE ha hsu hi hz0 hz1 hz2;go_enter Tryz.func100,Tryz.ntmps100;go_wp2_with (go_at_call 137; go_fit HH.o);rintro e w1 ⟨rfl,hb1⟩;have HB1:=qh hb1;clear hb1;go_wp2_with fail
   go_loopw [5,14] (fun p v wr=>KidQ w l a n p v wr) (fun _ v _=>n-(intOf v).toNat)
   case atStart=>exact ⟨0,Nat.zero_le _,rfl,RowI.nil _ _ HB1.o⟩
   case round =>
    obtain ⟨k,hk,rfl,hrow⟩:=hrel;have HR:=qh hrow;clear hrow
    by_cases hlt:k<n
    ·have hltI:(k:Int) < n:=by omega
     obtain ⟨t,ht⟩:∃ t,l[k]?=some t:=Qp (by rw [<- HN.o]; exact hlt);have HT1:=qh (HT.o.keep HR.o.2);obtain ⟨b,off,s,a3,n3,c3,a4,n4,c4,a5,n5,c5,rfl,hb,c0,c1,c2,c3',c4',c5'⟩:=HT1.o.all ht;have HP:=qh (Qf6 ht);obtain ⟨q,hq⟩:∃ q,q=t.par:=⟨_,rfl⟩;rw [<- hq] at c2 HP;have HRA:=qh (fun (o:Obj)=>HR.o.keep ((Below.refl _ _).alloc (Nat.le_refl _) o));have HSZ:Hid (w.heap.size<=wr.heap.size):=qh HR.o.2.size;have hkl:=Qgl l a k;have HL1:Hid ((kidsTo l a k).length+(intV [(k:Int)]).length<=maxLen):=qh (by simp [maxLen]; omega);have HL2:Hid (((kidsTo l a k).length+(intV [(k:Int)]).length)*8<=140737488355328):=qh (by simp; omega);clear ht hq hkl
     by_cases hqa:q=a
     ·have g1:(q == (a:Int)) = true:=by simpa using hqa
      have HS:Hid (kidsTo l a (k+1)=kidsTo l a k++[(k:Int)]):=qh (Qiv (HP.o.trans hqa));clear hqa;go_wp2_with (at_builtin; refine QK _ rfl (.tmp 23) (.tmp 25) _ rfl w.heap.size 3 i0 (.int .i64 0) 8 Tryz.underlying67 HI.o.1 HI.o.2.1 HI.o.2.2.1 HI.o.2.2.2 rfl _ _ _ rfl (((HRA.o _).1).alloc _) _ (intV [(k:Int)]) rfl (JN (by simp) rfl rfl) (ZC _) HL1.o HL2.o ?_ ?_; (have:=HSZ.o; simp; omega); intro p2 w2 hrow2 hg2 _; have HR2:=qh (RowI.add (HRA.o _) hrow2 hg2); clear hrow2 hg2)
      go_roundw
      case rel=>exact ⟨k+1,by omega,by simp,by rw [HS.o]; exact HR2.o⟩
      case measure=>simp [intOf]; omega
     ·have g1:(q == (a:Int)) = false:=by simpa using hqa
      have HS:Hid (kidsTo l a (k+1)=kidsTo l a k):=qh (kids_no (by rw [HP.o]; exact hqa));clear hqa;go_wp2_with fail
      go_roundw
      case rel=>exact ⟨k+1,by omega,by simp,by rw [HS.o]; exact HRA.o _⟩
      case measure=>simp [intOf]; omega
    ·obtain rfl:k = n:=by omega
     go_wp2_with fail;go_ret;obtain ⟨A2,c2,hp⟩:=QR HR.o.1;exact ⟨A2,_,c2,congrArg Ending.returned hp,rfl,hp ▸ HR.o⟩
end
section
namespace TransSpec
open CurSpec TermSpec EvalSpec NamesSpec ExprSpec ScanSpec ActSpec
def pcH (s:ByteArray):List ByteArray:=if s.size=0 then [wAuto] else [wOn,s]
def pcG:Option Ex -> List ByteArray
 | none => []
 | some e => [⟨#[91]⟩ ++ tx e ++ ⟨#[93]⟩]
def pcA (ts:List Ta):List ByteArray:=if ts=[] then [] else [wDo,putB ts]
def pcT (s:ByteArray):List ByteArray:=if s.size=0 then [] else [wTo,s]
def pcs (x:Tt):List ByteArray:=((pcH x.ev++pcG x.g)++pcA x.ts)++pcT x.tg
theorem pcH_nil {s:ByteArray} (h:s.size=0):pcH s=[wAuto]:=if_pos h
theorem pcH_ev {s:ByteArray} (h:0<s.size):pcH s=[wOn,s]:=if_neg (by omega)
theorem pcA_nil {ts:List Ta} (h:ts.length=0):pcA ts=[]:=if_pos (List.eq_nil_of_length_eq_zero h)
theorem pcA_some {ts:List Ta} (h:0<ts.length):pcA ts=[wDo,putB ts]:=if_neg (fun e=>by rw [e] at h; simp at h)
theorem pcT_nil {s:ByteArray} (h:s.size=0):pcT s=[]:=if_pos h
theorem pcT_tg {s:ByteArray} (h:0<s.size):pcT s=[wTo,s]:=if_neg (by omega)
theorem pcs_len (x:Tt):(pcH x.ev).length <= 2 /\ (pcH x.ev ++ pcG x.g).length <= 3 /\ ((pcH x.ev ++ pcG x.g) ++ pcA x.ts).length <= 5 /\ (pcs x).length <= 7:=by
 have h1:(pcH x.ev).length<=2:=by unfold pcH; split<;>simp
 have h2:(pcG x.g).length<=1:=by cases x.g<;>simp [pcG]
 have h3:(pcA x.ts).length<=2:=by unfold pcA; split<;>simp
 have h4:(pcT x.tg).length<=2:=by unfold pcT; split<;>simp
 unfold pcs;simp only [List.length_append];omega
theorem bytes_of {a b:ByteArray} (h:T a = T b):a = b:=by
 obtain ⟨⟨a⟩⟩:=a;obtain ⟨⟨b⟩⟩:=b;simp only [T] at h;rw [h]
theorem pcs_head (x:Tt):∃ p r,pcH x.ev = p :: r /\ T (headB x) = T p ++ Lib.joinTail [32] (r.map T):=by
 unfold pcH headB
 split
 ·exact ⟨_,_,rfl,by simp [Lib.joinTail]⟩
 ·refine ⟨_,_,rfl,?_⟩
  rw [T,Zx];simp only [Lib.joinTail,List.map_cons,List.map_nil,List.flatten_cons,List.flatten_nil];simp [T]
theorem Qel (a b:List ByteArray):Lib.joinTail [32] ((a++b).map T)=Lib.joinTail [32] (a.map T)++Lib.joinTail [32] (b.map T):=by simp [Lib.joinTail]
theorem tail_g (g:Option Ex):Lib.joinTail [32] ((pcG g).map T) = T (guardB g):=by
 cases g with
 | none => rfl
 | some e =>
   unfold pcG guardB;simp only [T,Zx,Lib.joinTail,List.map_cons,List.map_nil,List.flatten_cons,List.flatten_nil];simp
theorem tail_a (ts:List Ta):Lib.joinTail [32] ((pcA ts).map T) = T (actsB ts):=by
 unfold pcA actsB
 split
 ·rfl
 ·simp only [T,Zx,Lib.joinTail,List.map_cons,List.map_nil,List.flatten_cons,List.flatten_nil]
  simp
theorem tail_t (s:ByteArray):Lib.joinTail [32] ((pcT s).map T) = T (tgB s):=by
 unfold pcT tgB
 split
 ·rfl
 ·simp only [T,Zx,Lib.joinTail,List.map_cons,List.map_nil,List.flatten_cons,List.flatten_nil]
  simp
theorem pcs_join' (x:Tt):Lib.join ((pcs x).map T) [32] ++ [59] = T (txT x):=by
 obtain ⟨p,r,h,hh⟩:=pcs_head x;rw [txT_T,hh];unfold pcs;rw [h];simp only [List.cons_append,List.map_cons];rw [Lib.join_cons,Qel,Qel,Qel,tail_g,tail_a,tail_t];simp only [List.append_assoc]
theorem pcs_join {x:Tt} (h:x.Ok):(Lib.join ((pcs x).map (·.data.toList)) [32]).length <= 11659 /\ (⟨(Lib.join ((pcs x).map (·.data.toList)) [32]).toArray⟩:ByteArray) ++ ⟨#[59]⟩ = txT x:=by
 have hj:Lib.join ((pcs x).map (·.data.toList)) [32]++[59]=T (txT x):=pcs_join' x;have hz:=QeU h;have hl:(T (txT x)).length=(txT x).size:=rfl;refine ⟨?_,bytes_of ?_⟩
 ·rw [<- hj,List.length_append] at hl
  simp only [List.length_cons,List.length_nil] at hl;omega
 ·rw [<- hj,T,Zx]
end TransSpec
end
section
open Go.RowKit TermSpec EvalSpec ActSpec NamesSpec ExprSpec TransSpec
set_option maxRecDepth 100000
theorem RowS.addL {W wr w2:World} {p p':Value} {xs ys:List ByteArray} {o:Obj} (h:RowS W wr p xs) (hrow:w2.ownsRow W.heap.size 9 1 p' (xs.length + (strV ys).length) (strV xs ++ strV ys)) (hg:(wr.alloc o).grownBy w2 p.ownBlock):RowS W w2 p' (xs ++ ys):=by
 refine ⟨?_,(h.2.alloc h.2.size o).grown hg (by have:=h.2.size; simp; omega) (fun j hj=>(Qs h.1 j hj).1)⟩;rw [<- Qc7,List.length_append,<- strV_length ys];exact hrow
theorem RowS.lit1 {W:World} {k:Nat} (hk:k = W.heap.size) (a:ByteArray):RowS W (W.alloc (.cells #[.string a] 9)) (.slice (some ⟨k,0,none⟩) 1 1) [a]:=by
 subst hk;exact ⟨World.ownsRow_lit W _ 1 (Nat.le_refl _) (by decide) rfl,KitC.Qh _ _⟩
theorem RowS.lit2 {W V:World} {k:Nat} (hk:k = V.heap.size) (hb:Below W.heap.size W V) (a b:ByteArray):RowS W (V.alloc (.cells #[.string a,.string b] 9)) (.slice (some ⟨k,0,none⟩) 2 2) [a,b]:=by
 subst hk;exact ⟨World.ownsRow_lit V _ 2 hb.size (by decide) rfl,Qa hb (KitC.Qh _ _)⟩
theorem RowS.weak {w:World} {o:Obj} {wr:World} {p:Value} {xs:List ByteArray} (h:RowS (w.alloc o) wr p xs):RowS w wr p xs:=⟨QhL h.1 (by simp),Qa (KitC.Qh w o) h.2⟩
theorem QiL {W w:World} {p:Value} {xs:List ByteArray} (h:RowS W w p xs) (h8:xs.length <= 8) (hl:(Lib.join (xs.map (·.data.toList)) [32]).length <= 140737488355328) :
 ∃ A n c,p = .slice A n c/\Calls Tryz.prog 51 #[.slice A n c,.string ⟨#[32]⟩] w (RetS w ⟨(Lib.join (xs.map (·.data.toList)) [32]).toArray⟩):=by
 obtain ⟨A,n,c,rfl,hn,hc,hA⟩:=h.read.strs
 rcases Nat.eq_zero_or_pos n with h0 | h0
 ·subst h0
  obtain rfl:xs=[]:=List.eq_nil_of_length_eq_zero hn;exact ⟨A,0,c,rfl,(Tryz.strings_Join_none A c _ w).mono fun e w' ⟨he,hw⟩=>⟨he,by rw [hw]; exact Below.refl _ _⟩⟩
 ·obtain ⟨b,off,rfl,hb,hcell⟩:=hA h0
  subst hn;exact ⟨_,_,c,rfl,Tryz.strings_Join b off c xs ⟨#[32]⟩ w hcell hb (by omega) hc hl⟩
def RetRowS (W:World) (xs:List ByteArray) (e:Ending) (w':World):Prop:=∃ A n c,e = .returned (.slice A n c)/\RowS W w' (.slice A n c) xs
theorem QiQ (x:Tt) (hx:x.Ok) (gA:Option Addr) (gn gc:Nat) (aA:Option Addr) (an ac:Nat) (w:World) (hs:SmallT x.tr) (h:TrIn w gA gn gc aA an ac x.tr) (hg:SignsIn w) :
 Calls Tryz.prog 140 #[.agg #[.string x.ev,.slice gA gn gc,.slice aA an ac,.string x.tg]] w (RetRowS w (pcs x)):=by
 have hgn:gn=(gFlat x.g).length:=h.len.1;have han:an=x.ts.length:=by rw [h.len.2]; exact List.length_map ..
 obtain ⟨W1,hW1⟩:∃ W1,w.alloc (trO x.ev gA gn gc aA an ac x.tg)=W1:=⟨_,rfl⟩;have hb1:Below w.heap.size w W1:=by rw [<- hW1]; exact KitC.Qh _ _
 have hk1:W1.heap[w.heap.size]?=some (trO x.ev gA gn gc aA an ac x.tg):=by rw [<- hW1]; exact heap_alloc_new _ _
 have HK:=qh (fun W (hW:Below W1.heap.size W1 W)=>Qi (KitC.Qe hk1 hW));have hk0:=Qi hk1
 have HPG:Hid (∀ e,x.g = some e -> ∀ W,Below W1.heap.size W1 W -> Calls Tryz.prog 166 #[.slice gA gn gc] W (RetPut W (tx e) 0)):=qh (fun e he W hW => by
  have h1:=(hx.g e he);have h2:gFlat x.g=flat e:=by rw [he]; rfl
  have h3:Tms w (.slice gA gn gc) (flat e):=by rw [<- h2]; exact h.g
  exact put_ok gA gn gc (flat e) W (h3.keep (Qa hb1 hW)) (by rw [hgn,h2]) (by rw [<- h2]; exact hs.g) (hg.keep (Qa hb1 hW)) rfl h1.1 h1.2 (QbM h1.2))
 have HPA:Hid (∀ W,Below W1.heap.size W1 W -> Calls Tryz.prog 138 #[.slice aA an ac] W (RetPut W (putB x.ts) 0)):=qh (fun W hW => by
  have h1:chkA (x.ts.map Ta.ac)=0:=by unfold chkA; rw [if_neg (by rw [List.length_map]; have:=hx.few; omega)]; exact QbC hx.ts
  exact (Qh1 aA an ac (x.ts.map Ta.ac) hs.acts hs.alen W (h.a.keep (Qa hb1 hW)) (hg.keep (Qa hb1 hW))).2 x.ts rfl hx.ts h1)
 have HLN:=qh (pcs_len x);have hsg:=Qbf hx.g
 have HTS:Hid (∀ e,x.g = some e -> (tx e).size <= 1200):=qh (fun e he => by
  have h1:=hx.g e he;have h3:=QO h1.1;have h4:=QbM h1.2;omega)
 have HGN:Hid ((gn = 0 ↔ x.g = none) /\ an = x.ts.length):=qh ⟨by
  rw [hgn]
  cases x.g with
  | none => simp [gFlat]
  | some e => simp only [gFlat,reduceCtorEq,iff_false]; exact QgZ e,han⟩
 have HPC:Hid (pcs x=((pcH x.ev++pcG x.g)++pcA x.ts)++pcT x.tg):=qh rfl;obtain ⟨R,hR⟩:∃ R,R=pcs x:=⟨_,rfl⟩;rw [<- hR] at HPC HLN ⊢;obtain ⟨i0,hi,hz0,hz1,hz2⟩:=info_parts QdC;have HI:=qh (And.intro hi (And.intro hz0 (And.intro hz1 hz2)));have HW1:=qh hW1;have HZ1:Hid (W1.heap.size=w.heap.size+1):=qh (by rw [<- hW1,World.size_alloc]);have hcap:=h.cap;have hgn40:gn<=4398046511104:=by have:x.tr.g.length<=_:=hs.glen; have:=h.len.1; omega
 have han63:an<=9223372036854775807:=by have:x.tr.acts.length<=_:=hs.alen; have:=h.len.2; omega
 obtain ⟨ev,g,ts,tg⟩:=x;simp only at HK hk0 HPG HPA HLN HTS HGN HPC HW1 ⊢;clear hgn han hb1 hk1 hs h hg hx hsg hR hi hz0 hz1 hz2 hW1;obtain ⟨k0,k1,k2,k3⟩:=hk0;have hka:=HK.o _ (KitC.Qh W1 (.cells #[.string ⟨#[97,117,116,111]⟩] 9));have HKA:=qh hka;clear hka;go_enter Tryz.func140,Tryz.ntmps140;go_upto_if 11 with fail;rw [HW1.o]
 go_cut [3] from 8 (fun p wx=>RowS W1 wx p (pcH ev))
 case first =>
  obtain ⟨m0,m1,m2,m3⟩:=HKA.o
  rcases Nat.eq_zero_or_pos ev.size with h0 | h0
  ·have HE:=qh (pcH_nil h0)
   have g0:(!ev.toList.isEmpty)=false:=by rw [Qa1 h0]; rfl
   clear h0;rw [g0];go_wp2_with fail;go_meet
   case rel =>
    rw [HE.o];exact RowS.lit1 HZ1.o.symm _
  ·have HE:=qh (pcH_ev h0)
   have g0:(!ev.toList.isEmpty)=true:=by rw [QdB h0]; rfl
   clear h0;rw [g0];go_wp2_with fail;go_meet
   case rel =>
    rw [HE.o];exact RowS.lit2 (by simp [HZ1.o]) (KitC.Qh _ _) _ _
 case rest =>
  clear HKA k0 k1 k2 k3;have HROW:=qh hcut;have HBL:=qh hcut.2;have hl2:(pcH ev).length<=2:=HLN.o.1;obtain ⟨L,hL⟩:∃ L,L=pcH ev:=⟨_,rfl⟩;rw [<- hL] at HROW HPC HLN hl2;obtain ⟨k0,k1,k2,k3⟩:=HK.o _ HROW.o.2;obtain ⟨pA,pc,hsh⟩:=QR HROW.o.1;have HSH:=qh hsh;clear hcut hL hsh;go_upto_if 18 with fail
  go_cut [3] from 8 (fun p wx=>RowS W1 wx p (L++pcG g))
  case first =>
   cases g with
   | none =>
     obtain rfl:gn=0:=HGN.o.1.2 rfl;go_wp2_with fail;go_meet
     case rel=>rw [show L++pcG none=L from List.append_nil L]; exact HROW.o
   | some e =>
     have hgp:gn≠0:=fun h=>by cases (HGN.o.1.1 h)
     have g0:decide (0<gn)=true:=by simp; omega
     have HP:=qh (HPG.o e rfl);have HX:Hid (pcG (some e)=[⟨#[91]⟩++tx e++⟨#[93]⟩]):=qh rfl;have hz:=HTS.o e rfl;obtain ⟨y,hy⟩:∃ y,y=tx e:=⟨_,rfl⟩;rw [<- hy] at HP HX hz;have q1:¬ 9223372036854775807<1+y.size:=by omega
     have q2:¬ 9223372036854775807<1+y.size+1:=by omega
     have HL1:Hid (L.length+(strV [(⟨#[91]⟩:ByteArray)++y++⟨#[93]⟩]).length<=maxLen):=qh (by simp [maxLen]; omega);have HL2:Hid ((L.length+(strV [(⟨#[91]⟩:ByteArray)++y++⟨#[93]⟩]).length)*16<=140737488355328):=qh (by simp; omega);clear hgp hy;rw [g0];go_wp2_with (go_at_call 166; go_fit (HP.o _ HBL.o));rintro e2 w2 ⟨rfl,hb2⟩;have HR1:=qh (HROW.o.keep hb2);have HSZ:Hid (W1.heap.size<=w2.heap.size):=qh HR1.o.2.size;have HRA:=qh HR1.o.1;clear hb2 k0 k1 k2 k3;go_wp2_with (at_builtin; refine QK _ rfl (.tmp 25) (.tmp 29) _ rfl W1.heap.size 9 i0 (.string ByteArray.empty) 16 Tryz.underlying30 HI.o.1 HI.o.2.1 HI.o.2.2.1 HI.o.2.2.2 rfl _ _ _ rfl (Q9 HRA.o (KitC.Qh _ _)) _ (strV [(⟨#[91]⟩:ByteArray)++y++⟨#[93]⟩]) rfl (JN rfl rfl rfl) (Qcn _) HL1.o HL2.o ?_ ?_; (have:=HSZ.o; simp; omega); intro p2 w3 hrow3 hg3 _; have HR2:=qh (RowS.addL HR1.o hrow3 hg3); clear hrow3 hg3);go_meet
     case rel=>rw [HX.o]; exact HR2.o
  case rest =>
   clear k0 k1 k2 k3 HROW HSH HBL;have HROW:=qh hcut;have HBL:=qh hcut.2;have hl3:(L++pcG g).length<=3:=HLN.o.2.1;obtain ⟨L2,hL⟩:∃ L2,L2=L++pcG g:=⟨_,rfl⟩;rw [<- hL] at HROW HPC HLN hl3;obtain ⟨k0,k1,k2,k3⟩:=HK.o _ HROW.o.2;clear hcut hL;go_upto_if 34 with fail
   go_cut [3] from 8 (fun p wx=>RowS W1 wx p (L2++pcA ts))
   case first =>
    rcases Nat.eq_zero_or_pos an with h0 | h0
    ·have HX:=qh (pcA_nil (ts:=ts) (by have:=HGN.o.2; omega))
     subst h0;go_wp2_with fail;go_meet
     case rel=>rw [HX.o,List.append_nil]; exact HROW.o
    ·have HX:=qh (pcA_some (ts:=ts) (by have:=HGN.o.2; omega))
     have g0:decide (0<an)=true:=by simp; omega
     obtain ⟨y,hy⟩:∃ y,y=putB ts:=⟨_,rfl⟩;rw [<- hy] at HPA HX;have HL1:Hid (L2.length+(strV [wDo,y]).length<=maxLen):=qh (by simp [maxLen]; omega);have HL2:Hid ((L2.length+(strV [wDo,y]).length)*16<=140737488355328):=qh (by simp; omega);clear h0 hy;rw [g0];go_wp2_with (go_at_call 138; go_fit (HPA.o _ HBL.o));rintro e2 w2 ⟨rfl,hb2⟩;have HR1:=qh (HROW.o.keep hb2);have HSZ:Hid (W1.heap.size<=w2.heap.size):=qh HR1.o.2.size;have HRA:=qh HR1.o.1;clear hb2 k0 k1 k2 k3;go_wp2_with (at_builtin; refine QK _ rfl (.tmp 41) (.tmp 43) _ rfl W1.heap.size 9 i0 (.string ByteArray.empty) 16 Tryz.underlying30 HI.o.1 HI.o.2.1 HI.o.2.2.1 HI.o.2.2.2 rfl _ _ _ rfl (Q9 HRA.o (KitC.Qh _ _)) _ (strV [wDo,y]) rfl (JN rfl rfl rfl) (Qcn _) HL1.o HL2.o ?_ ?_; (have:=HSZ.o; simp; omega); intro p2 w3 hrow3 hg3 _; have HR2:=qh (RowS.addL HR1.o hrow3 hg3); clear hrow3 hg3);go_meet
     case rel=>rw [HX.o]; exact HR2.o
   case rest =>
    clear k0 k1 k2 k3 HROW HBL;have HROW:=qh hcut;have hl5:(L2++pcA ts).length<=5:=HLN.o.2.2.1;obtain ⟨L3,hL⟩:∃ L3,L3=L2++pcA ts:=⟨_,rfl⟩;rw [<- hL] at HROW HPC hl5;obtain ⟨k0,k1,k2,k3⟩:=HK.o _ HROW.o.2;obtain ⟨pA3,pc3,hsh⟩:=QR HROW.o.1;have HSZ:Hid (W1.heap.size<=wc.heap.size):=qh HROW.o.2.size;have HRA:=qh HROW.o.1;clear hcut hL
    rcases Nat.eq_zero_or_pos tg.size with h0 | h0
    ·have HX:Hid (R = L3):=qh (by rw [HPC.o,pcT_nil h0,List.append_nil])
     have g0:tg.toList.isEmpty=true:=by rw [Qa1 h0]; rfl
     have hn:=Qa1 h0;subst hsh;clear h0;go_wp2_with fail;go_ret;have h:=HROW.o;rw [<- HW1.o] at h;exact ⟨_,_,_,rfl,by rw [HX.o]; exact h.weak⟩
    ·have HX:Hid (R = L3 ++ [wTo,tg]):=qh (by rw [HPC.o,pcT_tg h0])
     have g0:tg.toList.isEmpty=false:=QdB h0;have HL1:Hid (L3.length+(strV [wTo,tg]).length<=maxLen):=qh (by simp [maxLen]; omega);have HL2:Hid ((L3.length+(strV [wTo,tg]).length)*16<=140737488355328):=qh (by simp; omega);clear h0 hsh;go_wp2_with (at_builtin; refine QK _ rfl (.tmp 48) (.tmp 51) _ rfl W1.heap.size 9 i0 (.string ByteArray.empty) 16 Tryz.underlying30 HI.o.1 HI.o.2.1 HI.o.2.2.1 HI.o.2.2.2 rfl _ _ _ rfl (Q9 HRA.o (KitC.Qh _ _)) _ (strV [wTo,tg]) rfl (JN rfl rfl rfl) (Qcn _) HL1.o HL2.o ?_ ?_; (have:=HSZ.o; simp; omega); intro p2 w3 hrow3 hg3 _; have HR2:=qh (RowS.addL HROW.o hrow3 hg3); clear hrow3 hg3);obtain ⟨pA4,pc4,rfl⟩:=QR HR2.o.1;go_ret;have h:=HR2.o;rw [<- HW1.o] at h;exact ⟨_,_,_,rfl,by rw [HX.o]; exact h.weak⟩
end
section
open Go.RowKit TermSpec EvalSpec ActSpec NamesSpec ExprSpec TransSpec
set_option maxRecDepth 100000
theorem tput_ok (x:Tt) (hx:x.Ok) (gA:Option Addr) (gn gc:Nat) (aA:Option Addr) (an ac:Nat) (w:World) (hs:SmallT x.tr) (h:TrIn w gA gn gc aA an ac x.tr) (hg:SignsIn w) :
 Calls Tryz.prog 103 #[.agg #[.string x.ev,.slice gA gn gc,.slice aA an ac,.string x.tg]] w (RetPut w (txT x) 0):=by
 have HC:Hid (Calls Tryz.prog 139 #[.agg #[.string x.ev,.slice gA gn gc,.slice aA an ac,.string x.tg]] (w.alloc (trO x.ev gA gn gc aA an ac x.tg)) (RetI (w.alloc (trO x.ev gA gn gc aA an ac x.tg)) 0)):=qh (by
  have:=QeM x.tr gA gn gc aA an ac (w.alloc (trO x.ev gA gn gc aA an ac x.tg)) hs (h.alloc _)
  rwa [tt_chk hx] at this)
 have HP:=qh (fun W (hW:Below w.heap.size w W)=>QiQ x hx gA gn gc aA an ac W hs (h.keep hW) (hg.keep hW));have HLN:=qh (pcs_len x).2.2.2;have HJ:=qh (pcs_join hx);have hsz:=QeU hx;obtain ⟨R,hR⟩:∃ R,R=txT x:=⟨_,rfl⟩;rw [<- hR] at HJ hsz ⊢;obtain ⟨L,hL⟩:∃ L,L=pcs x:=⟨_,rfl⟩;rw [<- hL] at HP HLN HJ;obtain ⟨ev,g,ts,tg⟩:=x;simp only at HC HP ⊢;clear hs h hR hL hg hx;go_enter Tryz.func103,Tryz.ntmps103;go_wp2_with (go_at_call 139; go_fit HC.o);rintro e w2 ⟨rfl,hb⟩;have HB:=qh (And.intro (KitC.Qy hb).1 (KitC.Qy hb).2.1);obtain ⟨c0,c1,c2,c3⟩:=Qi HB.o.1;clear hb;go_wp2_with (go_at_call 140; go_fit (HP.o _ HB.o.2));rintro e w3 ⟨A3,n3,c3',rfl,hrow⟩;obtain ⟨jA,jn,jc,heq,hj⟩:=QiL hrow (by have:=HLN.o; omega) (by have:=HJ.o.1; omega)
 cases heq
 obtain ⟨j,hjj⟩:∃ j:ByteArray,j=⟨(Lib.join (L.map (·.data.toList)) [32]).toArray⟩:=⟨_,rfl⟩;rw [<- hjj] at hj;have HJJ:Hid (j++⟨#[59]⟩=R):=qh (by rw [hjj]; exact HJ.o.2)
 have hj1:j.size + 1 <= 11659:=by
  have:=HJJ.o;rw [<- this,ByteArray.size_append] at hsz;exact hsz
 have q1:¬ 9223372036854775807<j.size+1:=by omega
 have HJC:=qh hj;have HB3:=qh (Qa HB.o.2 hrow.2);clear hj hjj hrow hsz hj1 c0 c1 c2 c3;go_wp2_with (go_at_call 51; go_fit HJC.o);rintro e w4 ⟨rfl,hb⟩;have HB4:=qh (Qa HB3.o hb);clear hb;go_wp2_with fail
 go_ret2
 exact ⟨by rw [<- HJJ.o]; rfl,HB4.o⟩
end
section
open Go.RowKit CurSpec TermSpec ExprSpec NamesSpec
set_option maxRecDepth 100000
theorem levO_sign {o:Int} {s:Sg} (hs:s ∈ sgs) (ho:s.op = o):levO o = s.lev:=by
 subst ho;unfold sgs at hs;simp only [List.mem_cons,List.not_mem_nil,or_false] at hs
 rcases hs with rfl | rfl | rfl | rfl | rfl | rfl | rfl | rfl | rfl | rfl | rfl<;>rfl
theorem sig_mem {k:Int} {j:Nat} {x:Int} (h:(sigO k)[j]? = some x):∃ s ∈ sgs,s.lev = k /\ s.op = x:=by
 unfold sigO lvl at h;have:=List.mem_of_getElem? h;obtain ⟨s,hs,he⟩:=List.mem_map.1 this;rw [List.mem_filter] at hs;exact ⟨s,hs.1,by simpa using hs.2,he⟩
theorem sig_all {k:Int} {s:Sg} (hs:s ∈ sgs) (hk:s.lev = k):s.op ∈ sigO k:=by
 unfold sigO lvl;rw [List.mem_map];exact ⟨s,List.mem_filter.2 ⟨hs,by simpa using hk⟩,rfl⟩
theorem sig_few (k:Int):(sigO k).length <= 11:=by
 unfold sigO lvl;rw [List.length_map];exact Nat.le_trans (List.length_filter_le _ _) (by decide)
def LvoRel (W:World) (o:Int) (v:Value) (w:World):Prop:=∃ k:Nat,1<=k/\k<=7/\v = .int .i64 k/\(∀ s∈sgs,s.op=o->(k:Int)<=s.lev)/\Below W.heap.size W w
def LviRel (W:World) (l:List Int) (n:Nat) (o:Int) (v:Value) (w:World):Prop:=∃ j:Nat,j<=n/\v = .int .i64 j/\(∀ x∈l.take j,x≠o)/\Below W.heap.size W w
theorem rlv_last {o:Int} (h:∀ s ∈ sgs,s.op = o -> (7:Int) <= s.lev) (ho:0 <= ar o):levO o = if o = 12 then 3 else if o = 3 then 7 else 8:=by
 have hno:∀ s∈sgs,s.op≠o:=fun s hs he=>by have:=h s hs he; have:=(Qb6 s hs).2.2.1; omega
 by_cases h8:o=1\/o=2\/o=9\/o=10\/o=11\/o=7\/o=8
 ·rw [show levO o=8 from if_pos h8,if_neg (by omega),if_neg (by omega)]
 ·by_cases h12:o = 12
  ·subst h12; rfl
  ·by_cases h3:o = 3
   ·subst h3; rfl
   ·exfalso
    have h2:ar o = 2:=by
     unfold ar at ho ⊢
     split at ho
     ·omega
     ·split at ho
      ·omega
      ·split at ho
       ·rename_i a b c
        rw [if_neg a,if_neg b,if_pos c]
       ·omega
    have:=Qbj h2 (by omega);exact hno _ this.1 this.2
theorem Qi8 (o:Int) (w:World) (ho:0 <= ar o):Calls Tryz.prog 146 #[.int .i64 o] w (RetI w (levO o)):=by
 have HO:=qh ho;clear ho;go_enter Tryz.func146,Tryz.ntmps146;go_wp2_with fail
 go_loopw [3] (fun v wr=>LvoRel w o v wr) (fun v _=>8-(intOf v).toNat)
 case atStart=>exact ⟨1,by decide,by decide,rfl,fun s hs _=>by have:=(Qb6 s hs).2.2.1; omega,Below.refl _ _⟩
 case round =>
  obtain ⟨k,hk1,hk7,rfl,hno,hbw⟩:=hrel;have HNO:=qh hno;have HB:=qh hbw;clear hno hbw
  by_cases hk:k<7
  ·have g1:(k:Int) <= 6:=by omega
   go_wp2_with (go_at_call 148; go_fit (Qap (k:Int) _));rintro e w1 ⟨v1,v2,rfl,-,hr2,-,-,hb1⟩;have hfew:=sig_few (k:Int);obtain ⟨l,hl⟩:∃ l,l=sigO (k:Int):=⟨_,rfl⟩;rw [<- hl] at hr2 hfew;obtain ⟨A2,n2,c2,rfl,hn2,hc2,hA2⟩:=hr2.ints;have HL:=qh hl;have HA:=qh hA2;have HB1:=qh (Qa HB.o hb1);have HN:=qh hn2;have hn11:n2<=11:=by omega
   clear hb1 hl hr2 hA2 hc2 hn2 hfew;go_wp2_with fail
   go_loopw [6] (fun v wr=>LviRel w1 l n2 o v wr) (fun v _=>n2-(intOf v).toNat)
   case atStart=>exact ⟨0,Nat.zero_le _,rfl,by simp,Below.refl _ _⟩
   case round =>
    obtain ⟨j,hj,rfl,hnj,hbj⟩:=hrel;have HNJ:=qh hnj;have HBJ:=qh hbj;clear hnj hbj
    by_cases hlt:j<n2
    ·obtain ⟨b,off,rfl,hb,hcell⟩:=HA.o (by omega)
     obtain ⟨x,hx⟩:∃ x,l[j]?=some x:=Qp (by rw [HN.o]; exact hlt);have c0:=(HBJ.o.cell (p:=⟨b,off+j,none⟩) hb).trans (hcell j x hx);have HX:=qh hx;have hltI:(j:Int)<(n2:Int):=by omega
     clear hx hcell
     by_cases he:x=o
     ·have e1:(x == o) = true:=by simpa using he
      have HE:=qh he;clear he;go_wp2_with fail;go_ret;refine ⟨?_,Qa HB1.o HBJ.o⟩;have hx:=HX.o;rw [HL.o] at hx;obtain ⟨s,hs,hsl,hso⟩:=sig_mem hx;rw [levO_sign hs (hso.trans HE.o),hsl]
      rfl
     ·have e1:(x == o) = false:=by simpa using he
      have HE:=qh he;clear he;go_wp2_with fail
      go_roundw
      case rel =>
       refine ⟨j+1,hlt,by simp,fun y hy=>?_,HBJ.o⟩;rw [QA HX.o,List.mem_append,List.mem_singleton] at hy
       rcases hy with hy | rfl
       ·exact HNJ.o y hy
       ·exact HE.o
      case measure=>simp [intOf]; omega
    ·obtain rfl:j = n2:=by omega
     have hge:¬ (j:Int)<(j:Int):=by omega
     go_wp2_with fail
     go_roundw
     case rel =>
      refine ⟨k+1,by omega,by omega,by simp,fun s hs he=>?_,Qa HB1.o HBJ.o⟩;have h1:=HNO.o s hs he
      by_cases h2:s.lev=(k:Int)
      ·exfalso
       have:=sig_all hs h2;rw [<- HL.o] at this;exact HNJ.o s.op (by rw [List.take_of_length_le (by rw [HN.o]; exact Nat.le_refl _)]; exact this) he
      ·omega
     case measure=>simp [intOf]; omega
  ·obtain rfl:k = 7:=by omega
   have HV:=qh (rlv_last HNO.o HO.o)
   by_cases h12:o=12
   ·subst h12
    go_wp2_with fail;go_ret;exact ⟨rfl,HB.o⟩
   ·by_cases h3:o = 3
    ·subst h3
     go_wp2_with fail;go_ret;exact ⟨rfl,HB.o⟩
    ·have HW:Hid (levO o = 8):=qh (by rw [HV.o,if_neg h12,if_neg h3])
     have e1:(o==12)=false:=by simpa using h12
     have e2:(o==3)=false:=by simpa using h3
     clear h12 h3;go_wp2_with fail;go_ret;exact ⟨by rw [HW.o]; rfl,HB.o⟩
end
end Go.Proofs.YtbdalbpackfejaaGreatDoor
