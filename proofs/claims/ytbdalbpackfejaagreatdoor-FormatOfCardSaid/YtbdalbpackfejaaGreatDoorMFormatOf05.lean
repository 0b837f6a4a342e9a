/- TermBelow, ValPut, ExprText, ActTextSpec, ExprBetween, joined. -/
import Derived.Test.YtbdalbpackfejaaGreatDoorMFormatOf04
set_option maxHeartbeats 16000000
set_option maxRecDepth 100000
namespace Go.Proofs.YtbdalbpackfejaaGreatDoor
section
open Go.RowKit TermSpec
set_option maxRecDepth 100000
theorem QbI {l:List Tm} {a k q m:Nat} (h:cnt q (l.drop (a + 1)) = some m) (hk:k < q) :
 endA l ((a+1+(cnt k (l.drop (a+1))).getD 0:Nat):Int)=(a+1+(cnt (k+1) (l.drop (a+1))).getD 0:Nat)/\a+1+(cnt (k+1) (l.drop (a+1))).getD 0<=max l.length (a+1):=by
 rw [show q=(k+1)+(q-(k+1)) by omega] at h;obtain ⟨x,_,hx,_,_⟩:=Qao h;obtain ⟨y,z,hy,hz,rfl⟩:=Qao hx;rw [hy,hx];rw [List.drop_drop] at hz;have:=(QdQ hx).1;rw [List.length_drop] at this;refine ⟨?_,by simp only [Option.getD_some]; omega⟩;rw [show (some y).getD 0=y from rfl,Zb hz];simp only [Option.getD_some];omega
def BelRel (W:World) (l:List Tm) (a q:Nat) (p v i:Value) (wr:World):Prop :=
 ∃ k:Nat,k<=q/\i = .int .i64 k/\v = .int .i64 (a+1+(cnt k (l.drop (a+1))).getD 0:Nat)/\RowI W wr p (belows l a k)
theorem Qfy (A:Option Addr) (n c:Nat) (l:List Tm) (a:Nat) (w:World) (h:Tms w (.slice A n c) l) (hn:n = l.length) (hn62:n <= 70368744177664) (t:Tm) (ht:l[a]? = some t) (he:0 <= endA l a) :
 Calls Tryz.prog 187 #[.slice A n c,.int .i64 a] w (RetInts w (belows l a (arN t.op))):=by
 obtain ⟨k0,m0,hk0,hc0,_,_,_⟩:=ZY he;obtain rfl:k0=a:=by omega
 obtain ⟨t',m,ht',h0,_,hm⟩:=Qcb hc0;rw [ht] at ht'
 cases ht'
 have han:=Ja ht;have e0:=QaU h0;have HT:=qh h;have HN:=qh hn;have HM:=qh hm;obtain ⟨b,off,rfl,hb,c0,-,-⟩:=h.at_ ht;have HC:=qh (QfY t.op);have HEE:=qh (fun (a:Int) w h=>end_any (some ⟨b,off,none⟩) n c l a w h hn (by omega));have hE:=HEE.o k0 w h;obtain ⟨r,hr⟩:∃ r,r=endA l k0:=⟨_,rfl⟩;rw [<- hr] at hE he;have HE:=qh hE;obtain ⟨o,ho⟩:∃ o,o=t.op:=⟨_,rfl⟩;rw [<- ho] at HC c0 e0 h0 HM ⊢;have hq:=(Qdp o).2;obtain ⟨q,hqe⟩:∃ q,q=arN o:=⟨_,rfl⟩;rw [<- hqe] at e0 HM ⊢;rw [<- e0] at HC hq;have hq2:q<=2:=by omega
 have hal:k0<n:=by omega
 have hal':(k0:Int)<n:=by omega
 obtain ⟨i0,hi,hz0,hz1,hz2⟩:=info_parts QaK;have HI:=qh (And.intro hi (And.intro hz0 (And.intro hz1 hz2)));clear ht ho hqe hn h hc0 hk0 hm hr hE h0 e0 han hi hz0 hz1 hz2 hq;go_enter Tryz.func187,Tryz.ntmps187
 go_wp2_with (first
  | (go_at_call 194; go_fit HE.o; rintro e w' ⟨rfl,rfl⟩)
  | (go_at_call 196; go_fit (HC.o _); rintro e w' ⟨rfl,rfl⟩))
 go_loopw [5,6,19] (fun p v i wr=>BelRel w l k0 q p v i wr) (fun _ _ i _=>3-(intOf i).toNat)
 case atStart=>exact ⟨0,Nat.zero_le _,rfl,by rw [Jq]; simp,RowI.nil _ _ (Below.refl _ _)⟩
 case round =>
  obtain ⟨k,hk,rfl,rfl,hrow⟩:=hrel;have HR:=qh hrow
  by_cases hlt:k<q
  ·obtain ⟨hx,hx2⟩:=QbI HM.o hlt
   obtain ⟨y,hy⟩:∃ y,y=k0+1+(cnt k (l.drop (k0+1))).getD 0:=⟨_,rfl⟩;obtain ⟨z,hz⟩:∃ z,z=k0+1+(cnt (k+1) (l.drop (k0+1))).getD 0:=⟨_,rfl⟩;have HX:=qh hx;have HY:=qh hy;have HZ:=qh hz;have hl:=Zh l k0 k;have HL1:Hid ((belows l k0 k).length+(intV [(y:Int)]).length<=maxLen):=qh (by rw [hl]; simp [maxLen]; omega);have HL2:Hid (((belows l k0 k).length+(intV [(y:Int)]).length)*8<=140737488355328):=qh (by rw [hl]; simp; omega);rw [<- HY.o];have HSZ:Hid (w.heap.size<=wr.heap.size):=qh hrow.2.size;have HRA:=qh hrow.1;clear hx hx2 hy hz hl hrow
   go_wp2_with (first
    | (at_builtin; refine QK _ rfl (.tmp 21) (.tmp 23) _ rfl w.heap.size 3 i0 (.int .i64 0) 8 Tryz.underlying67 HI.o.1 HI.o.2.1 HI.o.2.2.1 HI.o.2.2.2 rfl _ _ _ rfl (HRA.o.alloc _) _ (intV [(y:Int)]) rfl (Rd.lit (cs:=#[.int .i64 y]) rfl) (ZC _) HL1.o HL2.o ?_ ?_; (have:=HSZ.o; simp; omega); intro p2 w2 hrow2 hg2 _; have HR2:=qh (RowI.add HR.o hrow2 hg2); have HT2:=qh (HT.o.keep HR2.o.2); clear hrow2 hg2)
    | (go_at_call 194; go_fit (HEE.o _ _ HT2.o); rintro e w' ⟨rfl,rfl⟩))
   go_roundw
   case rel=>exact ⟨k+1,hlt,by simp,by rw [HY.o,HX.o],by rw [ZX,<- HY.o]; exact HR2.o⟩
   case measure=>simp [intOf]; omega
  ·obtain rfl:k = q:=by omega
   go_wp2_with fail;go_ret;exact ⟨_,rfl,HR.o.read,HR.o.2⟩
theorem Qeh (A:Option Addr) (n c:Nat) (l:List Tm) (a:Nat) (w:World) (h:Tms w (.slice A n c) l) (hn:n = l.length) (hn62:n <= 70368744177664) (t:Tm) (ht:l[a]? = some t) (he:0 <= endA l a) :
 Calls Tryz.prog 147 #[.slice A n c,.int .i64 a] w (RetInts w (belows l a (arN t.op))):=by
 obtain ⟨k0,m0,hk0,hc0,_,_,_⟩:=ZY he;obtain rfl:k0=a:=by omega
 obtain ⟨t',m,ht',h0,_,hm⟩:=Qcb hc0;rw [ht] at ht'
 cases ht'
 have han:=Ja ht;have e0:=QaU h0;have HT:=qh h;have HN:=qh hn;have HM:=qh hm;obtain ⟨b,off,rfl,hb,c0,-,-⟩:=h.at_ ht;have HC:=qh (Qek t.op);have HEE:=qh (fun (a:Int) w h=>rend_any (some ⟨b,off,none⟩) n c l a w h hn (by omega));obtain ⟨o,ho⟩:∃ o,o=t.op:=⟨_,rfl⟩;rw [<- ho] at HC c0 e0 h0 HM ⊢;have hq:=(Qdp o).2;obtain ⟨q,hqe⟩:∃ q,q=arN o:=⟨_,rfl⟩;rw [<- hqe] at e0 HM ⊢;rw [<- e0] at HC hq;have hq2:q<=2:=by omega
 have hal:k0<n:=by omega
 have hal':(k0:Int)<n:=by omega
 have HCELL:=qh c0;obtain ⟨i0,hi,hz0,hz1,hz2⟩:=info_parts QaK;have HI:=qh (And.intro hi (And.intro hz0 (And.intro hz1 hz2)));clear ht ho hqe hn h hc0 hk0 hm he h0 e0 han hi hz0 hz1 hz2 hq c0;go_enter Tryz.func147,Tryz.ntmps147;go_wp2_with fail
 go_loopw [5,6,7] (fun p v i wr=>BelRel w l k0 q p v i wr) (fun _ _ i _=>3-(intOf i).toNat)
 case atStart=>exact ⟨0,Nat.zero_le _,rfl,by rw [Jq]; simp,World.ownsRow_lit w #[] 0 (Nat.le_refl _) (Nat.zero_le _) rfl,(Below.refl _ _).alloc (Nat.le_refl _) _⟩
 case round =>
  obtain ⟨k,hk,rfl,rfl,hrow⟩:=hrel;have HR0:=qh hrow;have c0:wr.cell? ⟨b,off+k0*3,none⟩=some (.int .i64 o):=(hrow.2.cell (by exact hb)).trans HCELL.o;clear hrow
  by_cases hlt:k<q
  ·obtain ⟨hx,hx2⟩:=QbI HM.o hlt
   obtain ⟨y,hy⟩:∃ y,y=k0+1+(cnt k (l.drop (k0+1))).getD 0:=⟨_,rfl⟩;have HX:=qh hx;have HY:=qh hy;have hl:=Zh l k0 k;have HL1:Hid ((belows l k0 k).length+(intV [(y:Int)]).length<=maxLen):=qh (by rw [hl]; simp [maxLen]; omega);have HL2:Hid (((belows l k0 k).length+(intV [(y:Int)]).length)*8<=140737488355328):=qh (by rw [hl]; simp; omega);rw [<- HY.o];clear hx hx2 hy hl;go_wp2_with (go_at_call 170; go_fit (HC.o _));rintro e w1 ⟨rfl,hb1⟩;have HR:=qh (HR0.o.keep hb1);have HSZ:Hid (w.heap.size<=w1.heap.size):=qh HR.o.2.size;have HRA:=qh HR.o.1;clear hb1 c0;go_wp2_with (at_builtin; refine QK _ rfl (.tmp 21) (.tmp 23) _ rfl w.heap.size 3 i0 (.int .i64 0) 8 Tryz.underlying67 HI.o.1 HI.o.2.1 HI.o.2.2.1 HI.o.2.2.2 rfl _ _ _ rfl (HRA.o.alloc _) _ (intV [(y:Int)]) rfl (Rd.lit (cs:=#[.int .i64 y]) rfl) (ZC _) HL1.o HL2.o ?_ ?_; (have:=HSZ.o; simp; omega); intro p2 w2 hrow2 hg2 _; have HR2:=qh (RowI.add HR.o hrow2 hg2); have HT2:=qh (HT.o.keep HR2.o.2); clear hrow2 hg2);go_wp2_with (go_at_call 171; go_fit (HEE.o _ _ HT2.o));rintro e w3 ⟨rfl,hb3⟩;have HR3:=qh (HR2.o.keep hb3);clear hb3;go_wp2_with fail
   go_roundw
   case rel=>exact ⟨k+1,hlt,by simp,by rw [HY.o,HX.o],by rw [ZX,<- HY.o]; exact HR3.o⟩
   case measure=>simp [intOf]; omega
  ·obtain rfl:k = q:=by omega
   go_wp2_with (go_at_call 170; go_fit (HC.o _));rintro e w1 ⟨rfl,hb1⟩;have HR:=qh (HR0.o.keep hb1);clear hb1 c0;go_wp2_with fail;go_ret;exact ⟨_,rfl,HR.o.read,HR.o.2⟩
end
section
open Go.RowKit ValSpec
set_option maxRecDepth 100000
theorem JE {d:Nat} (h:d < 10):({ data:=#[48,49,50,51,52,53,54,55,56,57] }:ByteArray).extract d (d + 1) = ⟨[UInt8.ofNat (48 + d)].toArray⟩:=by
 match d,h with
 | 0,_ => rfl
 | 1,_ => rfl
 | 2,_ => rfl
 | 3,_ => rfl
 | 4,_ => rfl
 | 5,_ => rfl
 | 6,_ => rfl
 | 7,_ => rfl
 | 8,_ => rfl
 | 9,_ => rfl
theorem Z0 {a b:ByteArray} (h:a=b):Ending.returned (.string a) = .returned (.string b):=by rw [h]
theorem QdI (a b:List UInt8):(⟨a.toArray⟩:ByteArray) ++ ⟨b.toArray⟩ = ⟨(a ++ b).toArray⟩:=by
 apply ByteArray.ext
 simp [ByteArray.data_append]
theorem Qed (k:Nat):∀ (n:Nat) (w:World),n <= k -> n <= 9223372036854775807 ->
 Calls Tryz.prog 65 #[.int .i64 n] w fun e w'=>e = .returned (.string ⟨(digs n).toArray⟩)/\w=w':=by
 induction k with
 | zero =>
   intro n w hk hb;obtain rfl:n=0:=by omega
   go_enter Tryz.func65,Tryz.ntmps65;go_wp2_with fail;go_ret;exact ⟨Z0 (by rw [QaR (by omega)]; exact JE (d:=0) (by omega)),rfl⟩
 | succ k ih =>
   intro n w hk hb
   by_cases h:n<10
   ·go_enter Tryz.func65,Tryz.ntmps65
    go_wp2_with fail;go_ret;exact ⟨Z0 (by rw [QaR h,Nat.mod_eq_of_lt h]; exact JE h),rfl⟩
   ·have hl:(digs (n / 10)).length <= 19:=Qcl 18 _ (by omega)
    go_enter Tryz.func65,Tryz.ntmps65;go_wp2_with (go_at_call 65; refine (ih (n / 10) _ (by omega) (by omega)).mono ?_; rintro e w' ⟨rfl,rfl⟩);go_ret;exact ⟨Z0 (by rw [QdE h,JE (Nat.mod_lt _ (by omega)),QdI]),rfl⟩
theorem QfR (n:Int) (h:n < 0) (h1:-9223372036854775808 <= n):∃ d q:Nat,n.tmod 10 = -(d:Int) /\ n.tdiv 10 = -(q:Int) /\ d < 10 /\ q <= 922337203685477580 /\ n.natAbs = 10 * q + d:=by
 obtain ⟨m,rfl⟩:∃ m:Nat,n = -(m:Int):=⟨n.natAbs,by omega⟩;refine ⟨m % 10,m / 10,?_,?_,Nat.mod_lt _ (by omega),by omega,by rw [Int.natAbs_neg]; simp; omega⟩
 ·rw [Int.neg_tmod]; rfl
 ·rw [Int.neg_tdiv]; rfl
theorem rput_any (n:Int) (w:World) (h1:-9223372036854775808 <= n) (h2:n <= 9223372036854775807) :
 Calls Tryz.prog 27 #[.int .i64 n] w fun e w'=>e = .returned (.string ⟨(text n).toArray⟩)/\w=w':=by
 by_cases h:0<=n
 ·obtain ⟨m,rfl⟩:=Int.eq_ofNat_of_zero_le h
  go_enter Tryz.func27,Tryz.ntmps27;go_wp2_with (go_at_call 65; refine (Qed m m _ (by omega) (by omega)).mono ?_; rintro e w' ⟨rfl,rfl⟩);go_ret;exact ⟨Z0 (by unfold text; rw [if_neg (by omega)]; rfl),rfl⟩
 ·obtain ⟨d,q,hd,hq,hd10,hqb,hn⟩:=QfR n (by omega) h1
  have HN:=qh hn;clear hn
  by_cases h9:-10<n
  ·go_enter Tryz.func27,Tryz.ntmps27
   go_wp2_with fail;go_ret;have:=HN.o;exact ⟨Z0 (by rw [JE hd10,show (#[45]:Array UInt8)=[45].toArray from rfl,QdI]; unfold text; rw [if_pos (by omega),this,show q=0 by omega,QaR (by omega)]; simp),rfl⟩
  ·have hl:(digs q).length <= 19:=Qcl 18 _ (by omega)
   go_enter Tryz.func27,Tryz.ntmps27;go_wp2_with (go_at_call 65; refine (Qed q q _ (by omega) (by omega)).mono ?_; rintro e w' ⟨rfl,rfl⟩);go_ret;have:=HN.o;exact ⟨Z0 (by rw [JE hd10,show (#[45]:Array UInt8)=[45].toArray from rfl,QdI,QdI]; unfold text; rw [if_pos (by omega),this,QdE (n:=10*q+d) (by omega),show (10*q+d) / 10=q by omega,show (10*q+d) % 10=d by omega]; simp),rfl⟩
theorem QbL (d:Int) (w:World) (h0:0 <= d) (h9:d <= 9) :
 Calls Tryz.prog 99 #[.int .i64 d] w fun e w'=>e = .returned (.int .u8 (48+d))/\w=w':=by
 go_enter Tryz.func99,Tryz.ntmps99;go_wp2;go_ret;exact ⟨rfl,rfl⟩
def byteV (c:UInt8):Value:=.int .u8 c.toNat
def cellsOf (z:Nat) (cs:List UInt8):Array Value:=(List.replicate z (Value.int .u8 0)++cs.map byteV).toArray
theorem Qd0 {z k:Nat} {cs:List UInt8} (h:k < z):(cellsOf z cs)[k]? = some (.int .u8 0):=by
 simp [cellsOf,List.getElem?_append,h]
theorem QcQ {z:Nat} {cs:List UInt8} (c:UInt8):(cellsOf (z + 1) cs).setIfInBounds z (byteV c) = cellsOf z (c :: cs):=by
 apply Array.ext'
 simp only [cellsOf,Array.toList_setIfInBounds];rw [List.set_append_left _ _ (by simp)];simp [List.replicate_succ',List.set_append_right]
theorem Qc9 {d:Nat} (h:d < 10):byteV (UInt8.ofNat (48 + d)) = .int .u8 (48 + (d:Int)):=by
 unfold byteV; rw [byte_nat (by omega)]; simp
theorem cell_of_block {w:World} {b:Nat} {cs:Array Value} {t:TypeId} (h:w.heap[b]?=some (.cells cs t (0,0))) {i:Nat} {v:Value} (hi:cs[i]?=some v):w.cell? ⟨b,i,none⟩=some v:=by simp [World.cell?,h,hi]
theorem QbD {w:World} {b:Nat} {cs:Array Value} {t:TypeId} (h:w.heap[b]?=some (.cells cs t (0,0))) (i:Nat):w.frozen? ⟨b,i,none⟩=false:=by simp [World.frozen?,h]
theorem block_setCell {w:World} {b:Nat} {cs:Array Value} {t:TypeId} (h:w.heap[b]? = some (.cells cs t (0,0))) (i:Nat) (u:Value):(w.setCell ⟨b,i,none⟩ u).heap[b]? = some (.cells (cs.setIfInBounds i u) t (0,0)):=by
 have hlt:=lt_of_block h;have h':w.heap[b] = .cells cs t (0,0):=by simpa [Array.getElem?_eq_getElem hlt] using h
 show (w.heap.modify b _)[b]?=_
 rw [Array.getElem?_eq_getElem (by simpa using hlt),Array.getElem_modify_self,h']
 rfl
def PutRel (W:World) (m:Nat) (rv av:Value) (wr:World):Prop :=
 ∃ (i:Nat) (r:Int) (cs:List UInt8),cs.length + i = 18 /\ rv = .int .i64 r /\ av = .int .i64 ((i:Int) + 1) /\ r <= 0 /\ -9223372036854775808 <= r /\ digs m = digs r.natAbs ++ cs /\ r.natAbs * 10 ^ (18 - i) <= m /\
   wr.heap[W.heap.size]?=some (.cells (cellsOf (i+2) cs) 152 (0,0))/\Below W.heap.size W wr
theorem put_step {W wr:World} {m i q d:Nat} {r:Int} {cs:List UInt8} (hm:m <= 9223372036854775808) (hl:cs.length + i = 18) (hr:r < -9) (hd:digs m = digs r.natAbs ++ cs) (hp:r.natAbs * 10 ^ (18 - i) <= m)
 (hb:wr.heap[W.heap.size]?=some (.cells (cellsOf (i+2) cs) 152 (0,0))) (hbel:Below W.heap.size W wr) (hn:r.natAbs=10*q+d) (hd10:d<10) (hq:q<=922337203685477580) :
 PutRel W m (.int .i64 (-(q:Int))) (.int .i64 i) (wr.setCell ⟨W.heap.size,i+1,none⟩ (.int .u8 (48+(d:Int)))):=by
 have hi:1 <= i:=by
  rcases Nat.lt_or_ge 0 i with h | h
  ·exact h
  ·exfalso
   obtain rfl:i=0:=by omega
   have:10*10 ^ 18<=r.natAbs*10 ^ (18-0):=Nat.mul_le_mul_right _ (by omega);omega
 obtain ⟨k,rfl⟩:∃ k,i=k+1:=⟨i-1,by omega⟩;have hq1:1<=q:=by omega
 refine ⟨k,-(q:Int),UInt8.ofNat (48+d)::cs,by simp; omega,rfl,by simp,by omega,by omega,?_,?_,?_,hbel.setCell (Nat.le_refl _) _⟩
 ·rw [hd,hn,QdE (n:=10 * q + d) (by omega),show (10 * q + d) / 10 = q by omega,show (10 * q + d) % 10 = d by omega]
  simp
 ·have e:18 - k = (18 - (k + 1)) + 1:=by omega
  rw [e,Nat.pow_succ];refine Nat.le_trans ?_ hp;rw [hn,Int.natAbs_neg,Int.natAbs_natCast,Nat.mul_comm (10 ^ _) 10,<- Nat.mul_assoc];exact Nat.mul_le_mul_right _ (by omega)
 ·rw [block_setCell hb,<- Qc9 hd10,QcQ]
theorem Qen (B l L:Nat) (li:Int) (hli:li = l) (hl:l + L = 20) (h1:1 <= L) (W:World):(Instr.sliceAt 152 (.pointer (some ⟨B,0,none⟩)) (some (.int .i64 li)) none none).run Tryz.prog W = .ok (.slice (some ⟨B,l,none⟩) L L) W:=by
 subst hli;have hal:Tryz.prog.arrayLen 152=20:=by simp [Program.arrayLen,Tryz.underlying152]
 rw [run_sliceAt_array_l W 152 ⟨B,0,none⟩ (by simp [Program.arrayLen,Program.elem,Tryz.underlying152]) .i64 (l:Int) (by omega) (by rw [hal]; omega),hal]
 go_simp
 omega
theorem Qfl {w:World} {B z:Nat} {cs:List UInt8} (h:w.heap[B]? = some (.cells (cellsOf z cs) 152 (0,0))) (L:Nat) (hL:cs.length = L) :
 (convert 97 9 (.slice (some ⟨B,z,none⟩) L L)).run Tryz.prog w = .ok (.string ⟨cs.toArray⟩) w:=by
 subst hL;refine run_convert_bytes_back _ _ _ _ _ cs.length cs Tryz.underlying97 Tryz.underlying5 Tryz.underlying9 (fun j hj=>?_);have ea:(⟨B,z,none⟩:Addr).add j=⟨B,z+j,none⟩:=by unfold Addr.add; split<;>simp_all
 rw [ea];refine cell_of_block h ?_;simp [cellsOf,List.getElem?_append,show ¬ (z+j<z) by omega,List.getElem?_eq_getElem hj,byteV]
theorem put_last {W wr:World} {m i d:Nat} {r:Int} {cs:List UInt8} (hr:r = -(d:Int)) (hd10:d < 10) (hd:digs m = digs r.natAbs ++ cs)
 (hb:wr.heap[W.heap.size]?=some (.cells (cellsOf (i+2) cs) 152 (0,0))) :
 (wr.setCell ⟨W.heap.size,i+1,none⟩ (.int .u8 (48+(d:Int)))).heap[W.heap.size]?=some (.cells (cellsOf (i+1) (digs m)) 152 (0,0)):=by
 rw [block_setCell hb,<- Qc9 hd10,QcQ,hd,hr,Int.natAbs_neg,Int.natAbs_natCast,QaR hd10]
 rfl
theorem put_sign {wr:World} {B i:Nat} {cs:List UInt8} (hb:wr.heap[B]? = some (.cells (cellsOf (i + 1) cs) 152 (0,0))) :
 (wr.setCell ⟨B,i,none⟩ (.int .u8 45)).heap[B]?=some (.cells (cellsOf i (45::cs)) 152 (0,0)):=by
 rw [block_setCell hb,show (Value.int .u8 45)=byteV 45 from rfl,QcQ]
theorem Qdx (n:Int) (w:World) (h1:-9223372036854775808 <= n) (h2:n <= 9223372036854775807) :
 Calls Tryz.prog 52 #[.int .i64 n] w fun e w'=>e = .returned (.string ⟨(text n).toArray⟩)/\Below w.heap.size w w':=by
 rcases (show 0<n\/n<0\/n<=0/\0<=n by omega) with h | h | ⟨h,h'⟩
 all_goals
  go_enter Tryz.func52,Tryz.ntmps52;go_wp2_with fail
  go_loopw [3,5] (fun r a wr=>PutRel w n.natAbs r a wr) (fun r _ _=>(intOf r).natAbs)
  case atStart => first
   | exact ⟨18,-n,[],rfl,rfl,rfl,by omega,by omega,by simp,by simp,(heap_alloc_new _ _).trans rfl,(Below.refl _ _).alloc (Nat.le_refl _) _⟩
   | exact ⟨18,n,[],rfl,rfl,rfl,by omega,by omega,by simp,by simp,(heap_alloc_new _ _).trans rfl,(Below.refl _ _).alloc (Nat.le_refl _) _⟩
  case round =>
   obtain ⟨i,r,cs,hl,rfl,rfl,hr,hr2,hd,hp,hb,hbel⟩:=hrel;have hi2:i<=18:=by omega
   have hc:=cell_of_block hb (Qd0 (k:=i+1) (by omega));have hf:=QbD hb (i+1);have hc':=cell_of_block hb (Qd0 (k:=i) (by omega));have hf':=QbD hb i
   by_cases h9:r < -9
   ·obtain ⟨d,q,hd1,hq,hd10,hqb,hn⟩:=QfR r (by omega) hr2
    have HR:=qh (put_step (show n.natAbs<=9223372036854775808 by omega) hl h9 hd hp hb hbel hn hd10 hqb);have HM:Hid (q<r.natAbs):=qh (by omega);clear hn hd hp hb hl hc' hf';go_wp2_with (go_at_call 99; refine (QbL _ _ (by omega) (by omega)).mono ?_; rintro e w' ⟨rfl,rfl⟩)
    go_round
    case rel=>exact HR.o
    case measure=>have:=HM.o; simp [intOf]; omega
   ·obtain ⟨d,rfl⟩:∃ d:Nat,r = -(d:Int):=⟨r.natAbs,by omega⟩
    have hd10:d<10:=by omega
    have hb2:=put_last (m:=n.natAbs) rfl hd10 hd hb
    have hlen:(digs n.natAbs).length = 19 - i:=by
     rw [hd,List.length_append,Int.natAbs_neg,Int.natAbs_natCast,QaR hd10]; simp; omega
    by_cases hneg:n<0
    ·first
      | (exfalso; omega)
      | (have hb3:=put_sign hb2
         obtain ⟨L,hL⟩:∃ L,L=20-i:=⟨_,rfl⟩;have hsl:=Qen w.heap.size i L (i:Int) rfl (by omega) (by omega);have hcv:=Qfl hb3 L (by simp; omega);have HB:Hid (Below w.heap.size w ((wr.setCell ⟨w.heap.size,i+1,none⟩ (.int .u8 (48+(d:Int)))).setCell ⟨w.heap.size,i,none⟩ (.int .u8 45))):=qh ((hbel.setCell (Nat.le_refl _) _).setCell (Nat.le_refl _) _);clear hb hb2 hb3 hlen hd hp hl hL hbel;go_wp2_with (go_at_call 99; refine (QbL _ _ (by omega) (by omega)).mono ?_; rintro e w' ⟨rfl,rfl⟩);go_ret;exact ⟨Z0 (by unfold text; rw [if_pos (by omega)]),HB.o⟩)
    ·first
      | (exfalso; omega)
      | (obtain ⟨L,hL⟩:∃ L,L = 19 - i:=⟨_,rfl⟩
         have hsl:=Qen w.heap.size (i+1) L ((i:Int)+1) rfl (by omega) (by omega);have hcv:=Qfl hb2 L (by omega);have HB:Hid (Below w.heap.size w (wr.setCell ⟨w.heap.size,i+1,none⟩ (.int .u8 (48+(d:Int))))):=qh (hbel.setCell (Nat.le_refl _) _);clear hb hb2 hlen hd hp hl hL hbel hc' hf';go_wp2_with (go_at_call 99; refine (QbL _ _ (by omega) (by omega)).mono ?_; rintro e w' ⟨rfl,rfl⟩);go_ret;exact ⟨Z0 (by unfold text; rw [if_neg (by omega)]),HB.o⟩)
end
section
open Go.RowKit CurSpec TermSpec ExprSpec
set_option maxRecDepth 100000
namespace ExprSpec
def bk (b:Prop) [Decidable b] (s:ByteArray):ByteArray:=if b then (⟨#[40]⟩++s)++⟨#[41]⟩ else s
def tx:Ex -> ByteArray
 | .leaf t => if t.op = 1 then bs (ValSpec.text t.n) else if t.op = 2 then t.s else if t.op = 9 then ⟨#[116,114,117,101]⟩ else if t.op = 10 then ⟨#[102,97,108,115,101]⟩ else (⟨#[105,110,40]⟩ ++ t.s) ++ ⟨#[41]⟩
 | .un o a => if o = 3 then ⟨#[45]⟩ ++ bk (lev a < 7) (tx a) else ⟨#[110,111,116,32]⟩ ++ bk (lev a < 3) (tx a)
 | .bin o a b => if o = 7 then (((⟨#[109,105,110,40]⟩ ++ tx a) ++ ⟨#[44,32]⟩) ++ tx b) ++ ⟨#[41]⟩
   else if o=8 then (((⟨#[109,97,120,40]⟩++tx a)++⟨#[44,32]⟩)++tx b)++⟨#[41]⟩
   else (((bk (lev a<(sgOf o).left) (tx a)++⟨#[32]⟩)++(sgOf o).t)++⟨#[32]⟩)++bk (lev b<(sgOf o).right) (tx b)
def opE:Ex -> Int
 | .leaf t => t.op
 | .un o _ => o
 | .bin o _ _ => o
def levO (o:Int):Int:=if o=1\/o=2\/o=9\/o=10\/o=11\/o=7\/o=8 then 8 else if o=12 then 3 else if o=3 then 7 else (opSg o).lev
theorem lev_opE {e:Ex} (h:Good e):lev e = levO (opE e):=by
 cases e with
 | leaf t =>
   have:=Qa3 h.1
   show (8:Int)=levO t.op
   unfold levO;rw [if_pos (by omega)]
 | un o a =>
   have ho:o = 3 \/ o = 12:=by
    have h1:=h.1;unfold ar at h1
    split at h1
    ·omega
    split at h1
    ·assumption
    split at h1<;>omega
   rcases ho with rfl | rfl<;>rfl
 | bin o a b =>
   have e:lev (.bin o a b)=if o=7\/o=8 then 8 else (sgOf o).lev:=rfl
   rw [e]
   show _=levO o
   unfold levO
   by_cases h7:o=7\/o=8
   ·rw [if_pos h7,if_pos (by omega)]
   ·have h1:¬ (o = 1 \/ o = 2 \/ o = 9 \/ o = 10 \/ o = 11 \/ o = 12 \/ o = 3):=by
     rintro (rfl | rfl | rfl | rfl | rfl | rfl | rfl)<;>exact absurd h.1 (by decide)
    rw [if_neg h7,if_neg (by omega),if_neg (by omega),if_neg (by omega)]
    rfl
theorem Jn (b:Prop) [Decidable b] (s:ByteArray):(bk b s).size <= s.size + 2:=by
 unfold bk
 split
 ·rw [ByteArray.size_append,ByteArray.size_append]
  show 1+s.size+1<=_
  omega
 ·omega
theorem Jc (l:List UInt8):(bs l).size=l.length:=rfl
theorem QG {s:ByteArray} (h:NamesSpec.isName s.data.toList = true):s.size <= 12:=by
 unfold NamesSpec.isName at h;simp only [Bool.and_eq_true,decide_eq_true_eq] at h;have:=h.1.1.1.2
 rwa [show s.data.toList.length=s.size from rfl] at this
theorem QfB {n:Int} (h:0 <= n /\ n <= 1000000):(ValSpec.text n).length <= 12:=by
 unfold ValSpec.text;rw [if_neg (by omega)];have:=ValSpec.Qcl 6 n.natAbs (by omega);omega
theorem Qgn:∀ s∈sgs,s.t.size<=3:=by decide
theorem QO:∀ {e:Ex},Good e -> (tx e).size <= 30 * (flat e).length
 | .leaf t,h => by
   show (tx (.leaf t)).size<=30
   unfold tx
   rcases Qa3 h.1 with h1 | h1 | h1 | h1 | h1
   ·rw [if_pos h1,Jc]
    have:=QfB (Qdw h1 h.2).1;omega
   ·rw [if_neg (by omega),if_pos h1]
    have:=QG (JS (.inl h1) h.2).1;omega
   ·rw [if_neg (by omega),if_neg (by omega),if_pos h1]
    decide
   ·rw [if_neg (by omega),if_neg (by omega),if_neg (by omega),if_pos h1]
    decide
   ·rw [if_neg (by omega),if_neg (by omega),if_neg (by omega),if_neg (by omega),ByteArray.size_append,ByteArray.size_append]
    have:=QG (JS (.inr h1) h.2).1
    show 3+t.s.size+1<=30
    omega
 | .un o a,h => by
   have ih:=QO h.2;have h7:=Jn (lev a<7) (tx a);have h3:=Jn (lev a<3) (tx a)
   show (tx (.un o a)).size<=30*((flat a).length+1)
   unfold tx
   split
   ·rw [ByteArray.size_append]
    show 1+_<=_
    omega
   ·rw [ByteArray.size_append]
    show 4+_<=_
    omega
 | .bin o a b,h => by
   have iha:=QO h.2.1;have ihb:=QO h.2.2;have hl:=Jn (lev a<(sgOf o).left) (tx a);have hr:=Jn (lev b<(sgOf o).right) (tx b)
   show (tx (.bin o a b)).size<=30*((flat a++flat b).length+1)
   rw [List.length_append];unfold tx
   by_cases h7:o=7
   ·rw [if_pos h7]
    simp only [ByteArray.size_append]
    show 4+_+2+_+1<=_
    omega
   by_cases h8:o=8
   ·rw [if_neg h7,if_pos h8]
    simp only [ByteArray.size_append]
    show 4+_+2+_+1<=_
    omega
   ·rw [if_neg h7,if_neg h8]
    have:=Qgn _ (Qbj h.1 (by omega)).1;simp only [ByteArray.size_append]
    show _+1+_+1+_<=_
    omega
theorem QaE (e:Ex):∃ t r,flat e = t :: r /\ t.op = opE e:=by
 cases e with
 | leaf t => exact ⟨t,[],rfl,rfl⟩
 | un o a => exact ⟨opT o,flat a,rfl,rfl⟩
 | bin o a b => exact ⟨opT o,flat a ++ flat b,rfl,rfl⟩
end ExprSpec
def RetS (W:World) (s:ByteArray) (e:Ending) (w':World):Prop:=e = .returned (.string s)/\Below W.heap.size W w'
structure TxAt (W:World) (A:Option Addr) (n c:Nat) (l:List Tm):Prop where
 tms:Tms W (.slice A n c) l
 len:n=l.length
 few:n<=1000
 sg:SignsIn W
theorem TxAt.on {W W':World} {A:Option Addr} {n c:Nat} {l:List Tm} (h:TxAt W A n c l) (hb:Below W.heap.size W W'):TxAt W' A n c l:=⟨h.tms.keep hb,h.len,h.few,h.sg.keep hb⟩
def TextOk (e:Ex):Prop:=∀ A n c l (a:Nat) rest W,TxAt W A n c l->l.drop a=flat e++rest->Calls Tryz.prog 177 #[.slice A n c,.int .i64 a] W (RetS W (tx e))
def WithinOk (e:Ex):Prop:=∀ A n c l (a:Nat) rest (k:Int) W,TxAt W A n c l->l.drop a=flat e++rest->Calls Tryz.prog 188 #[.slice A n c,.int .i64 a,.int .i64 k] W (RetS W (bk (lev e<k) (tx e)))
theorem sg_field (x0 x1 x2 x3 x4:Value) (w:World):(Instr.field 229 (.agg #[x0,x1,x2,x3,x4]) 2).run Tryz.prog w = .ok x2 w:=by kernel_rfl
theorem level_any (o:Int) (w:World) (hs:SignsIn w):Calls Tryz.prog 197 #[.int .i64 o] w (RetI w (levO o)):=by
 have HS:Hid (Calls Tryz.prog 189 #[.int .i64 o] w fun e w'=>e = .returned (.agg #[.string (opSg o).t,.int .i64 (opSg o).op,.int .i64 (opSg o).lev,.int .i64 (opSg o).left,.int .i64 (opSg o).right])/\Below w.heap.size w w'):=qh (Qd4 o w hs);clear hs
 by_cases h8:o=1\/o=2\/o=9\/o=10\/o=11\/o=7\/o=8
 ·have HO:Hid (levO o = 8):=qh (if_pos h8)
  rcases h8 with rfl | rfl | rfl | rfl | rfl | rfl | rfl
  all_goals
   go_enter Tryz.func197,Tryz.ntmps197;go_wp2_with fail;go_ret;exact ⟨by rw [HO.o]; rfl,Below.refl _ _⟩
 ·by_cases h12:o = 12
  ·subst h12
   go_enter Tryz.func197,Tryz.ntmps197;go_wp2_with fail;go_ret;exact ⟨rfl,Below.refl _ _⟩
  ·by_cases h3:o = 3
   ·subst h3
    go_enter Tryz.func197,Tryz.ntmps197;go_wp2_with fail;go_ret;exact ⟨rfl,Below.refl _ _⟩
   ·have HO:Hid (levO o = (opSg o).lev):=qh (by unfold levO; rw [if_neg h8,if_neg h12,if_neg h3])
    have e1:(o==1)=false:=by simp; omega
    have e2:(o==2)=false:=by simp; omega
    have e3:(o==9)=false:=by simp; omega
    have e4:(o==10)=false:=by simp; omega
    have e5:(o==11)=false:=by simp; omega
    have e6:(o==7)=false:=by simp; omega
    have e7:(o==8)=false:=by simp; omega
    have e8:(o==12)=false:=by simp; omega
    have e9:(o==3)=false:=by simp; omega
    have hfl:=sg_field;clear h8 h12 h3;go_enter Tryz.func197,Tryz.ntmps197;go_wp2_with (go_at_call 189; go_fit HS.o);rintro e w1 ⟨rfl,hb1⟩;have HB1:=qh hb1;clear hb1;go_wp2_with fail;go_ret;exact ⟨by rw [HO.o]; rfl,HB1.o⟩
theorem QcH {x:Ex} (hg:ExprSpec.Good x) (ht:TextOk x):WithinOk x:=by
 intro A n c l a rest k w h hd;have HTX:=qh (ht A n c l a rest w h hd);obtain ⟨t,r,hf,hop⟩:=QaE x
 have hla:l[a]? = some t:=by
  have:(l.drop a)[0]?=some t:=by rw [hd,hf]; rfl
  rwa [List.getElem?_drop] at this
 obtain ⟨b,off,rfl,hb,c0,-,-⟩:=h.tms.at_ hla;have hlen:=h.len;have hal:a<n:=by have:=Ja hla; omega
 have hz:(tx x).size <= 60000:=by
  have h1:=QO hg;have h2:=congrArg List.length hd;have h3:=h.few;rw [List.length_drop,List.length_append] at h2;omega
 have hal':(a:Int)<n:=by omega
 have HL:=qh (fun w h=>level_any t.op w h);obtain ⟨lv,hlv⟩:∃ lv,lv=levO t.op:=⟨_,rfl⟩;rw [<- hlv] at HL;have HE:Hid (lev x=lv):=qh (by rw [lev_opE hg,hlv,hop]);obtain ⟨o,ho⟩:∃ o,o=t.op:=⟨_,rfl⟩;rw [<- ho] at HL c0;have HS:=qh h.sg;have HC0:=qh c0;clear ht h hd hf hop hla hlen ho hlv c0
 by_cases hk:lv<k
 all_goals
  go_enter Tryz.func188,Tryz.ntmps188;go_wp2_with (go_at_call 177; go_fit HTX.o);rintro e w1 ⟨rfl,hb1⟩;have c1:=(hb1.cell (p:=⟨b,off+a*3,none⟩) hb).trans HC0.o;have HL1:=qh (HL.o w1 (HS.o.keep hb1));have HB1:=qh hb1;clear hb1;go_wp2_with (go_at_call 197; go_fit HL1.o);rintro e w2 ⟨rfl,hb2⟩;have HB2:=qh (Qa HB1.o hb2);clear hb2 c1;go_wp2_with fail;go_ret;refine ⟨?_,HB2.o⟩;rw [HE.o]
  first | rw [show bk (lv<k) (tx x)=(⟨#[40]⟩++tx x)++⟨#[41]⟩ from if_pos hk] | rw [show bk (lv<k) (tx x)=tx x from if_neg (by omega)]
  rfl
end
section
namespace ActSpec
open TermSpec EvalSpec NamesSpec ExprSpec
structure Ta where
 s:ByteArray
 any:Bool
 e:Ex
def Ta.ac (t:Ta):Ac:=⟨t.s,t.any,if t.any then [] else flat t.e⟩
def Ta.Ok (t:Ta):Prop:=isName t.s.data.toList=true/\(t.any=false->ExprSpec.Good t.e/\chk (flat t.e)=0)
theorem ta_of {a:Ac} (h:oneA a = 0):∃ t:Ta,t.ac = a /\ t.Ok:=by
 obtain ⟨s,any,x⟩:=a;unfold oneA at h
 split at h
 ·cases h
 ·rename_i hn
  have hn':isName s.data.toList=true:=by simpa using hn
  split at h
  ·rename_i ha
   simp only at ha h;subst ha;obtain ⟨hw,hm,-⟩:=ZE h;obtain ⟨h40,hc⟩:=Q6.1 hw;obtain ⟨e,he,hg⟩:=ex_of ⟨hc,hm⟩;exact ⟨⟨s,false,e⟩,by unfold Ta.ac; simp [he],hn',fun _=>⟨hg,by rw [he]; exact h⟩⟩
  ·rename_i ha
   simp only at ha h;have ha':any=true:=by simpa using ha
   subst ha'
   split at h
   ·rename_i hx
    obtain rfl:x=[]:=List.eq_nil_of_length_eq_zero hx;exact ⟨⟨s,true,.leaf ⟨0,0,⟨#[]⟩⟩⟩,by simp [Ta.ac],hn',fun h=>by cases h⟩
   ·cases h
theorem Qgf:∀ {l:List Ac},firstA l = 0 -> ∃ ts:List Ta,ts.map Ta.ac = l /\ ∀ t ∈ ts,t.Ok
 | [],_ => ⟨[],rfl,by simp⟩
 | a :: r,h => by
   unfold firstA at h
   split at h
   ·rename_i ha
    obtain ⟨t,ht,hok⟩:=ta_of ha;obtain ⟨ts,hts,hoks⟩:=Qgf h;refine ⟨t::ts,by rw [List.map_cons,ht,hts],fun u hu=>?_⟩
    rcases List.mem_cons.1 hu with rfl | hu
    ·exact hok
    ·exact hoks u hu
   ·rename_i ha
    exact absurd h ha
theorem ta_one {t:Ta} (h:t.Ok):oneA t.ac = 0:=by
 unfold oneA Ta.ac;rw [if_neg (by simp [h.1])]
 rcases ha:t.any with _ | _
 ·simp [(h.2 ha).2]
 ·simp
theorem QbC:∀ {ts:List Ta},(∀ t ∈ ts,t.Ok) -> firstA (ts.map Ta.ac) = 0
 | [],_ => rfl
 | t :: ts,h => by
   rw [List.map_cons];unfold firstA;rw [if_pos (ta_one (h t (by simp)))];exact QbC fun u hu=>h u (by simp [hu])
def txA (t:Ta):ByteArray:=if t.any then ⟨#[97,110,121,32]⟩++t.s else t.s++⟨#[32,58,61,32]⟩++tx t.e
theorem Qgu {t:Ta} (h:t.Ok) (ha:t.any=false):(flat t.e).length<=40:=(Q6.1 (ZE (h.2 ha).2).1).1
theorem Qid {t:Ta} (h:t.Ok):(txA t).size <= 1300:=by
 have h1:=QG h.1;unfold txA
 rcases ha:t.any with _ | _
 ·have h2:=QO (h.2 ha).1
  have h3:=Qgu h ha;simp only [Bool.false_eq_true,if_false,ByteArray.size_append]
  show t.s.size+4+(tx t.e).size<=1300
  omega
 ·simp only [if_true,ByteArray.size_append]
  show 4+t.s.size<=1300
  omega
def putT (ts:List Ta):List UInt8:=Lib.join (ts.map fun t=>(txA t).data.toList) [44,32]
def putB (ts:List Ta):ByteArray:=⟨(putT ts).toArray⟩
theorem putT_snoc (ts:List Ta) (t:Ta):putT (ts ++ [t]) = (if ts = [] then [] else putT ts ++ [44,32]) ++ (txA t).data.toList:=by
 unfold putT
 cases ts with
 | nil => simp [Lib.join_one]
 | cons u r =>
   rw [if_neg (by simp)];simp only [List.cons_append,List.map_cons,List.map_append,Lib.join_cons,List.map_nil];unfold Lib.joinTail;simp
theorem Qfa (ts:List Ta) (t:Ta):putB (ts ++ [t]) = (if ts = [] then ⟨#[]⟩ else putB ts ++ ⟨#[44,32]⟩) ++ txA t:=by
 apply ByteArray.ext
 apply Array.ext'
 rw [ByteArray.data_append];simp only [putB,putT_snoc]
 split
 ·simp
 ·simp [ByteArray.data_append]
theorem Zy {ts:List Ta} (h:∀ t ∈ ts,t.Ok):(putB ts).size <= 1302 * ts.length:=by
 have:∀ n,n <= ts.length -> (putB (ts.take n)).size <= 1302 * n:=by
  intro n
  induction n with
  | zero => intro _; simp [putB,putT,Lib.join_nil,ByteArray.size]
  | succ n ih =>
    intro hn;have hg:ts[n]?=some ts[n]:=List.getElem?_eq_getElem (by omega);have h1:=ih (by omega);have h2:=Qid (h ts[n] (List.getElem_mem _));rw [List.take_add_one,hg,Option.toList_some,Qfa,ByteArray.size_append]
    split
    ·show 0 + _ <= _
     omega
    ·rw [ByteArray.size_append]
     show _+2+_<=_
     omega
 have h2:=this ts.length (Nat.le_refl _)
 rwa [List.take_length] at h2
end ActSpec
end
section
open Go.RowKit CurSpec TermSpec ExprSpec
set_option maxRecDepth 100000
theorem RdAt.other {w w':World} {R B j:Nat} {v:Value} {c:Cur} {l:List Tm} (h:RdAt w R B v c l) (hb:w.grownBy w' (some j)) (hj:R < j) (hne:v.ownBlock ≠ some j):RdAt w' R B v c l:=by
 have hlt:=h.lt;have hR:=h.lt';refine ⟨h.cur.upto hb.size (fun i hi=>hb.block i (by omega) (by simp; omega)),(hb.block R hR (by simp; omega)).trans h.blk,⟨h.own.1,?_⟩,h.lt,h.few,h.small⟩
 rcases h.own.2 with h' | ⟨g,cap,cur,h1,h2,h3,h4⟩
 ·exact .inl h'
 ·refine .inr ⟨g,cap,cur,h1,h2,(hb.block g (Array.getElem?_eq_some_iff.1 h3).1 ?_).trans h3,h4⟩
  intro e;refine hne ?_;rw [h1];exact e
theorem QeY {a b:World} {B k:Nat} (h:a.grownBy b (some B)) (hk:a.heap.size <= k) (u0 u1 u2 u3 u4:Value) :
 a.grownBy (((((b.setCell ⟨k,0,none⟩ u0).setCell ⟨k,1,none⟩ u1).setCell ⟨k,2,none⟩ u2).setCell ⟨k,3,none⟩ u3).setCell ⟨k,4,none⟩ u4) (some B) :=
 QJ (QJ (QJ (QJ (QJ h hk _ _) hk _ _) hk _ _) hk _ _) hk _ _
theorem Qcw (b:World) (k:Nat) (u0 u1 u2 u3 u4:Value) :
 b.grownBy (((((b.setCell ⟨k,0,none⟩ u0).setCell ⟨k,1,none⟩ u1).setCell ⟨k,2,none⟩ u2).setCell ⟨k,3,none⟩ u3).setCell ⟨k,4,none⟩ u4) (some k) :=
 Ql (Ql (Ql (Ql (Ql (Qx _ _) _ _) _ _) _ _) _ _) _ _
theorem add_at (R B:Nat) (v:Value) (c:Cur) (l:List Tm) (t:Tm) (w:World) (h:RdAt w R B v c l) (ht:t.s.size <= 9223372036854775807) :
 Calls Tryz.prog 191 #[.pointer (some ⟨R,0,none⟩),.agg #[.int .i64 t.op,.int .i64 t.n,.string t.s]] w (RetRd w R B v c (ins l l.length t)):=by
 obtain ⟨A,cp,rfl⟩:=QR h.own;obtain ⟨n,hn⟩:∃ n,n=l.length:=⟨_,rfl⟩;obtain ⟨r0,r1⟩:=QC (h.alloc (tmO t)).blk;obtain ⟨b0,b1,b2⟩:=Qj (heap_alloc_new w (tmO t));have HINS:=qh (QfV R B _ c l n t _ (h.alloc (tmO t)).drew (by omega) ht);rw [<- hn] at r1 HINS ⊢;clear h hn ht;go_enter Tryz.func191,Tryz.ntmps191;go_wp2_with fail;go_region_law (go_simp; go_at_call 184; go_fit HINS.o; rintro e x ⟨v',rfl,hR',hH'⟩; have HE:=qh (And.intro hR' hH'); clear hR' hH')
 all_goals
  go_wp2_with fail
  go_end0
  exact ⟨_,rfl,HE.o.1,(Hold.of_below _ ((Below.refl _ _).alloc (Nat.le_refl _) _).drew).trans HE.o.2⟩
abbrev sgZO:Obj:=.cells #[.string ⟨#[]⟩,.int .i64 0,.int .i64 0,.int .i64 0,.int .i64 0] 229
abbrev tkO (t:Tk):Obj:=.cells #[.int .i64 t.k,.string t.t,.int .i64 t.l,.int .i64 t.c] 76
def RetSg (W:World) (R B:Nat) (v:Value) (c:Cur) (l:List Tm) (o:Option Sg) (e:Ending) (w':World):Prop :=
 ∃ s b d,e = .returned (.tuple #[sgA s,.bool b])/\(match o with | none=>s=sgZ/\b=false/\d=c | some y=>s=y/\b=true/\d=on c)/\RdAt w' R B v d l/\W.grownBy w' (some B)
theorem Qc2 {y:Sg} (h:y ∈ sgs):ExprSpec.look y.t = some y:=by
 unfold sgs at h;simp only [List.mem_cons,List.not_mem_nil,or_false] at h
 rcases h with rfl | rfl | rfl | rfl | rfl | rfl | rfl | rfl | rfl | rfl | rfl<;>rfl
def Bt (t:ByteArray) (lev k:Int) (y:Sg):Prop:=y.t=t/\y.left<=lev/\k<=y.lev
def BtRel (W:World) (t:ByteArray) (lev k:Int) (i:Value) (wr:World):Prop:=∃ j:Nat,j<=11/\i = .int .i64 j/\(∀ y∈sgs.take j,¬ Bt t lev k y)/\Below W.heap.size W wr
theorem Qgc {t:ByteArray} {lev k:Int} {j:Nat} {s:Sg} (h:∀ y ∈ sgs.take j,¬ Bt t lev k y) (hs:sgs[j]? = some s) (hne:¬ Bt t lev k s):∀ y ∈ sgs.take (j + 1),¬ Bt t lev k y:=by
 intro y hy;rw [QA hs,List.mem_append,List.mem_singleton] at hy
 rcases hy with hy | rfl
 ·exact h y hy
 ·exact hne
theorem bt_none {c:Cur} {lev k:Int} (h:∀ y ∈ sgs.take 11,¬ Bt (next c).t lev k y):sgn c lev k = none:=JG fun s hs => by
 obtain ⟨h1,h2,h3,h4,hm⟩:=QZ hs;exact h s hm ⟨(Qeo h1).2,h3,h4⟩
theorem bt_hit {c:Cur} {lev k:Int} {s:Sg} {j:Nat} (hs:sgs[j]? = some s) (hk:(next c).k = 3 \/ (next c).k = 1) (h:Bt (next c).t lev k s):sgn c lev k = some s:=by
 refine Qa0 ?_ hk h.2.1 h.2.2;rw [<- h.1];exact Qc2 (List.mem_of_getElem? hs)
theorem QhQ {w x:World} {p q:Obj} (hb:Below (w.alloc p).heap.size (w.alloc p) x):(x.alloc q).heap[w.heap.size]? = some p /\ (x.alloc q).heap[x.heap.size]? = some q /\ w.heap.size < x.heap.size /\ Below w.heap.size w (x.alloc q):=by
 obtain ⟨h1,h2,h3⟩:=Qy hb;exact ⟨(heap_alloc_old _ _ h3).trans h1,heap_alloc_new _ _,h3,h2.alloc h2.size _⟩
theorem bt_after {w wr x3:World} {R B K2:Nat} {v:Value} {c:Cur} {l:List Tm} {s:Sg} {o1:Array Value} {o2:Obj} {T1:TypeId} (h:RdAt w R B v c l) (hb:Below w.heap.size w wr)
 (h3:((wr.alloc (sgO s)).drew).grownBy x3 (some B)) (hc:CurAt x3 B (on c)) (h2:(wr.alloc (sgO s)).heap[K2]?=some o2) (h1:(wr.alloc (sgO s)).heap[w.heap.size]?=some (.cells o1 T1 (0,0)))
 (hz:w.heap.size<K2) (hz2:K2+1<=wr.heap.size) :
 x3.heap[w.heap.size]?=some (.cells o1 T1 (0,0))/\x3.heap[wr.heap.size]?=some (sgO s)/\x3.heap[K2]?=some o2/\RdAt x3 R B v (on c) l/\v.ownBlock≠some w.heap.size/\w.grownBy x3 (some B):=by
 have hR:=h.lt';have hB:=h.lt;have hz3:(wr.alloc (sgO s)).drew.heap.size=wr.heap.size+1:=World.size_alloc _ _;have hr:RdAt (wr.alloc (sgO s)).drew R B v c l:=((h.keep hb).alloc _).drew;refine ⟨(h3.block _ (by rw [hz3]; omega) (by simp; omega)).trans h1,(h3.block _ (by rw [hz3]; omega) (by simp; omega)).trans (heap_alloc_new _ _),(h3.block _ (by rw [hz3]; omega) (by simp; omega)).trans h2,hr.but h3 hc,(h.apart (Nat.le_refl _)).2.2,Qt (Qba (QcB (QH hb) _)) h3⟩
theorem Qi3 (R B:Nat) (v:Value) (c:Cur) (l:List Tm) (lev k:Int) (w:World) (hs:SignsIn w) (h:RdAt w R B v c l) :
 Calls Tryz.prog 183 #[.pointer (some ⟨R,0,none⟩),.int .i64 lev,.int .i64 k] w (RetSg w R B v c l (sgn c lev k)):=by
 have HN:=qh (Qbu B c _ (h.alloc (sgZO)).cur);obtain ⟨r0,r1⟩:=QC (h.alloc (sgZO)).blk;obtain ⟨t,ht⟩:∃ t,t=next c:=⟨_,rfl⟩;rw [<- ht] at HN;have HH:=qh h;have HS:=qh hs;have HT:=qh ht;clear h hs ht
 by_cases hk:t.k=3\/t.k=1
 ·have HK:=qh hk
  have hi:=Qd3;have hix:=Qdi;obtain ⟨SV,hSV⟩:∃ SV,SV=signsV:=⟨_,rfl⟩;have hS:=HS.o;unfold SignsIn at hS;rw [<- hSV] at hi hix hS;obtain ⟨T,fr,hg0⟩:=hS;have HIX:=qh hix;have HG0:=qh hg0;have HI:=qh hi;clear hix hSV hg0 hi HS
  have hkk:((t.k != 3) = false) \/ ((t.k != 3) = true /\ (t.k != 1) = false):=by
   by_cases h3:t.k=3
   ·exact .inl (by simpa using h3)
   ·exact .inr ⟨by simpa using h3,by simpa using hk.resolve_left h3⟩
  clear hk
  rcases hkk with e3 | ⟨e3,e1⟩
  all_goals
   go_enter Tryz.func183,Tryz.ntmps183;go_wp2_with (go_at_call 78; go_fit HN.o);rintro e x2 ⟨rfl,hb2⟩;obtain ⟨k1,k2,hz,hB⟩:=QhQ (q:=tkO t) hb2;obtain ⟨t0,t1,t2,t3⟩:=Qi k2;have hg:=(hB.block _ (Array.getElem?_eq_some_iff.1 HG0.o).1).trans HG0.o;have hi:=HI.o;have HK1:=qh k1;have HK2:=qh k2;have HB:=qh hB;have HZ:=qh hz;clear hb2 k1 k2 hB r0 r1;go_wp2_with (refine wpList_load_row rfl 237 _ rfl 2 rfl T SV fr _ hg Tryz.underlying237 rfl hi ?_);clear hg hi t0 t1 t2 t3 hz
   go_loopw [10,26] (fun _ i wr=>BtRel (x2.alloc (tkO t)) t.t lev k i wr) (fun _ i _=>11-(intOf i).toNat)
   case atStart=>exact ⟨0,by omega,rfl,by simp,Below.refl _ _⟩
   case round =>
    obtain ⟨j,hj,rfl,hno,hbw⟩:=hrel;have HNO:=qh hno;have HBW:=qh hbw;have hzw:=hbw.size;rw [World.size_alloc] at hzw;have hz:=HZ.o;have hB2:=Qa HB.o hbw;have kt:=Qe HK2.o hbw;have ks:=Qe HK1.o hbw;clear hno hbw
    by_cases hlt:j<11
    ·obtain ⟨s,hs⟩:∃ s,sgs[j]? = some s:=Qp (by rw [QgJ]; exact hlt)
     have hx:=HIX.o j s hs;have HSJ:=qh hs;have kt':=(heap_alloc_old wr (sgO s) (show x2.heap.size<wr.heap.size by omega)).trans kt;have ks':=(heap_alloc_old wr (sgO s) (show w.heap.size<wr.heap.size by omega)).trans ks;have kr':=((HH.o.keep hB2).alloc (sgO s)).blk;obtain ⟨t0,t1,t2,t3⟩:=Qi kt';obtain ⟨r0,r1⟩:=QC kr';have HKT:=qh kt';have HKS:=qh ks';have HB2:=qh hB2;have HZW:=qh (And.intro hzw hz);clear hs kt ks kt' ks' kr' hB2 hzw hz
     by_cases h1:s.t=t.t
     ·have e4:(s.t.toList == t.t.toList) = true:=by rw [h1]; simp
      have H1:=qh h1;clear h1
      by_cases h2:s.left<=lev
      ·by_cases h3:k <= s.lev
       ·have hit:=bt_hit (c:=c) (lev:=lev) (k:=k) HSJ.o (by rw [<- HT.o]; exact HK.o) ⟨by rw [<- HT.o]; exact H1.o,h2,h3⟩
        have HIT:=qh hit;have h0:=Qet hit;have HTK:=qh (take_at B c t.k t.t (wr.alloc (sgO s)).drew ((HH.o.keep HB2.o).alloc (sgO s)).drew.cur);have hib:isB c t.k t.t=true:=JB h0 (by rw [<- HT.o]) (by rw [<- HT.o]);have htk:take c t.k t.t=on c:=by unfold take; rw [if_pos hib]
        rw [hib,htk] at HTK
        have HXF:Hid (∀ x3:World,((wr.alloc (sgO s)).drew).grownBy x3 (some B) -> CurAt x3 B (on c) -> Hid (x3.heap[w.heap.size]? = some sgZO /\ x3.heap[wr.heap.size]? = some (sgO s) /\ x3.heap[x2.heap.size]? = some (tkO t) /\ RdAt x3 R B v (on c) l /\ v.ownBlock ≠ some w.heap.size /\ w.grownBy x3 (some B))) :=
         qh (fun x3 h3 hc=>qh (bt_after HH.o HB2.o h3 hc HKT.o HKS.o HZW.o.2 HZW.o.1))
        obtain ⟨s0,s1,s2,s3,s4⟩:=JP (heap_alloc_new wr (sgO s));clear hit h0 hib htk;go_wp2_with fail;go_region_law (go_simp; go_at_call 46; go_fit HTK.o; rintro e x3 ⟨rfl,hC3,hb3⟩; have HE:=qh (And.intro hC3 hb3); clear hC3 hb3; have HX:=HXF.o _ HE.o.2 HE.o.1; obtain ⟨p0,p1,p2,p3,p4⟩:=JP HX.o.1; obtain ⟨f0,f1,f2,f3,f4⟩:=Qex HX.o.1; obtain ⟨u0,u1,u2,u3,u4⟩:=JP HX.o.2.1; obtain ⟨g0,g1,g2,g3⟩:=Qi HX.o.2.2.1; obtain ⟨y0,y1⟩:=QC HX.o.2.2.2.1.blk)
        all_goals
         go_wp2_with fail;obtain ⟨q0,q1,q2,q3,q4⟩:=ZO (QD HX.o.1 (n:=5) rfl) (.string s.t) (.int .i64 s.op) (.int .i64 s.lev) (.int .i64 s.left) (.int .i64 s.right);refine bodyPost_ret (v:=.tuple #[sgA s,.bool true]) (by simp [results,Tryz.results183,go_sem,q0,q1,q2,q3,q4]) rfl ?_;rw [HIT.o];exact ⟨s,true,on c,rfl,⟨rfl,rfl,rfl⟩,HX.o.2.2.2.1.other (Qcw _ _ _ _ _ _ _) (by have:=HH.o.lt'; omega) HX.o.2.2.2.2.1,QeY HX.o.2.2.2.2.2 (Nat.le_refl _) _ _ _ _ _⟩
       ·have e6:decide (k <= s.lev) = false:=decide_eq_false h3
        have HNX:=qh (Qgc HNO.o HSJ.o (fun h=>h3 h.2.2));go_wp2_with fail
        go_roundw
        case rel=>exact ⟨j+1,hlt,by simp,HNX.o,HBW.o.alloc HBW.o.size _⟩
        case measure=>simp [intOf]; omega
      ·have e5:decide (s.left <= lev) = false:=decide_eq_false h2
       have HNX:=qh (Qgc HNO.o HSJ.o (fun h=>h2 h.2.1));go_wp2_with fail
       go_roundw
       case rel=>exact ⟨j+1,hlt,by simp,HNX.o,HBW.o.alloc HBW.o.size _⟩
       case measure=>simp [intOf]; omega
     ·have e4:(s.t.toList == t.t.toList) = false:=(Lib.bytes_beq_false_iff _ _).2 h1
      have HNX:=qh (Qgc HNO.o HSJ.o (fun h=>h1 h.1));go_wp2_with fail
      go_roundw
      case rel=>exact ⟨j+1,hlt,by simp,HNX.o,HBW.o.alloc HBW.o.size _⟩
      case measure=>simp [intOf]; omega
    ·obtain rfl:j = 11:=by omega
     have HIT:=qh (bt_none (c:=c) (lev:=lev) (k:=k) (by rw [<- HT.o]; exact HNO.o));obtain ⟨f0,f1,f2,f3,f4⟩:=Qex ks;obtain ⟨d0,d1,d2,d3,d4⟩:=JP ks;have HK3:=qh (QD ks (n:=5) rfl);have HB2:=qh hB2;clear hB2 ks kt;go_wp2_with fail;obtain ⟨q0,q1,q2,q3,q4⟩:=ZO HK3.o (.string ⟨#[]⟩) (.int .i64 0) (.int .i64 0) (.int .i64 0) (.int .i64 0);refine bodyPost_ret (v:=.tuple #[sgA sgZ,.bool false]) (by simp [results,Tryz.results183,go_sem,q0,q1,q2,q3,q4,sgZ]) rfl ?_;rw [HIT.o];exact ⟨sgZ,false,c,rfl,⟨rfl,rfl,rfl⟩,(HH.o.keep HB2.o).other (Qcw _ _ _ _ _ _ _) (by have:=HH.o.lt'; omega) (HH.o.apart (Nat.le_refl _)).2.2,QeY (QH HB2.o) (Nat.le_refl _) _ _ _ _ _⟩
 ·have e3:(t.k != 3) = true:=by simp; omega
  have e1:(t.k != 1)=true:=by simp; omega
  have hno:sgn c lev k=none:=by unfold sgn; rw [<- HT.o]; exact if_neg hk
  have HNO:=qh hno;clear hk hno;go_enter Tryz.func183,Tryz.ntmps183;go_wp2_with (go_at_call 78; go_fit HN.o);rintro e x2 ⟨rfl,hb2⟩;obtain ⟨k1,k2,hz,hB⟩:=QhQ (q:=tkO t) hb2;obtain ⟨t0,t1,t2,t3⟩:=Qi k2;obtain ⟨f0,f1,f2,f3,f4⟩:=Qex k1;obtain ⟨d0,d1,d2,d3,d4⟩:=JP k1;have HK3:=qh (QD k1 (n:=5) rfl);have HB:=qh hB;clear hb2 k1 k2 hB r0 r1 hz;go_wp2_with fail;obtain ⟨q0,q1,q2,q3,q4⟩:=ZO HK3.o (.string ⟨#[]⟩) (.int .i64 0) (.int .i64 0) (.int .i64 0) (.int .i64 0);refine bodyPost_ret (v:=.tuple #[sgA sgZ,.bool false]) (by simp [results,Tryz.results183,go_sem,q0,q1,q2,q3,q4,sgZ]) rfl ?_;rw [HNO.o];exact ⟨sgZ,false,c,rfl,⟨rfl,rfl,rfl⟩,(HH.o.keep HB.o).other (Qcw _ _ _ _ _ _ _) (by have:=HH.o.lt'; omega) (HH.o.apart (Nat.le_refl _)).2.2,QeY (QH HB.o) (Nat.le_refl _) _ _ _ _ _⟩
end
end Go.Proofs.YtbdalbpackfejaaGreatDoor
