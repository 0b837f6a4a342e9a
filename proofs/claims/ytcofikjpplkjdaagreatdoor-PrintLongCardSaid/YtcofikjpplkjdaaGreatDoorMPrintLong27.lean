/- PrintScan, ShapeProg, ShapeTell, ShapeRef, ShapeRefTell, PrintIn, ShapeRefMay, ActRefCheck, TransRefCheck, PrintMay, joined. -/
import Derived.Test.YtcofikjpplkjdaaGreatDoorMPrintLong26
import Derived.Test.YtcofikjpplkjdaaGreatDoorMPrintLong24
import Derived.Deep.RegionHeld3
import Derived.Test.YtcofikjpplkjdaaGreatDoorMPrintLong25
import Derived.Test.YtcofikjpplkjdaaGreatDoorMPrintLong12
namespace Go.Proofs.YtcofikjpplkjdaaGreatDoor
namespace PrintSpec
open CurSpec TermSpec EvalSpec NamesSpec ExprSpec ScanSpec ActSpec TransSpec SynSpec
open ShapeSpec (Sh up sf endOf SU)
theorem T_bs (l:List UInt8):T (bs l) = l:=by simp [bs]
theorem sc_long {l:List UInt8}:∀ (ts:List Tx) (i j f:Nat) (acc:List Tok),Sc l i ts j → l.length ≤ i + f → acc.length ≤ 4000 → 4000 < acc.length + ts.length → (scanGo l f i acc).2.2 = 8
 | [],_,_,_,_,_,_,h1,h2 => by simp at h2; omega
 | (k,s) :: r,i,j,f,acc,⟨h1,h2,h3,h4,h5⟩,hf,ha,hl => by
   cases f with
   | zero => omega
   | succ f =>
     rw [List.length_cons] at hl
     have hle:i + s.length ≤ l.length:=by
      have:=congrArg List.length h3
      rw [List.length_take,List.length_drop] at this
      omega
     have hg:=(gap_bd hle).1
     rw [scanGo,if_neg (by omega),h2]
     dsimp only
     rw [if_neg (by simp)]
     by_cases hq:acc.length = 4000
     ·rw [if_pos hq]
     ·rw [if_neg hq]
      exact sc_long r _ j f _ h5 (by omega) (by rw [List.length_append,List.length_singleton]; omega) (by rw [List.length_append,List.length_singleton]; omega)
theorem scan_long {p:ByteArray} {ts:List Tx} (h:Ln (T p) ts) (ht:4000 < ts.length):(scanT (T p)).2.2 ≠ 0:=by
 unfold scanT
 split
 ·simp
 ·have:=h (T p) 0 [] (by simp)
  unfold scan
  rw [sc_long ts _ _ (T p).length [] this (by omega) (by simp) (by simpa using ht)]
  decide
theorem scan_ln {p:ByteArray} {ts:List Tx} (h:Ln (T p) ts) (hs:p.size ≤ 65536) (ht:ts.length ≤ 4000) :
 (scanT (T p)).2.2 = 0 ∧ ∃ d,Goo (cur0 (tkAll p)) ts d ∧ (next d).k = 0 ∧ (next d).t = ⟨#[]⟩:=by
 have hlen:(T p).length = p.size:=rfl
 have hsc:=h (T p) 0 [] (by simp)
 rw [Nat.zero_add] at hsc
 have hgl:(T p).length ≤ gap (T p) (T p).length:=(gap_bd (Nat.le_refl _)).1
 have hS:scanT (T p) = (toksAt (T p) (gap (T p) 0) ts ++ [⟨0,gap (T p) (T p).length,0⟩],0,0):=by
  unfold scanT
  rw [if_neg (by omega)]
  unfold scan
  rw [scan_sc ts _ _ _ [] hsc hgl (by omega) (by rw [List.length_nil]; omega)]
  rfl
 have hA:tkAll p = (toksAt (T p) (gap (T p) 0) ts).map (tokOf p) ++ [tokOf p ⟨0,gap (T p) (T p).length,0⟩]:=by
  unfold tkAll
  rw [hS,List.map_append]
  rfl
 obtain ⟨hn,hL⟩:=nx_toks ts _ _ (cur0 (tkAll p)) _ hsc rfl hA
 have hbad:(onN ts.length (cur0 (tkAll p))).bad = 0:=bad_on rfl _
 have hend:next (onN ts.length (cur0 (tkAll p))) = tokOf p ⟨0,gap (T p) (T p).length,0⟩:=by
  unfold next
  rw [if_pos hbad,hL]
 refine ⟨by rw [hS],_,⟨rfl,hn,rfl⟩,by rw [hend]; rfl,?_⟩
 rw [hend]
 show p.extract _ (_ + 0) = _
 apply ByteArray.ext
 simp
theorem parse_put {x:Tc} (h:x.Ok) (hs:(putC x).length ≤ 65536) (ht:(chK x).length ≤ 4000):(scanT (T (bs (putC x)))).2.2 = 0 ∧ parseC (bs (putC x)) = ⟨x.cx,0,0,0⟩:=by
 have hl:Ln (T (bs (putC x))) (chK x):=by rw [T_bs]; exact ln_chart h
 obtain ⟨h1,d,hg,hk,hT⟩:=scan_ln hl (by rw [show (bs (putC x)).size = (putC x).length by simp [bs,ByteArray.size]]; exact hs) ht
 have hr:=chart_goo h hg
 have hb:isB d 0 ⟨#[]⟩ = true:=isB_yes' (goo_good hg) hk hT
 have hw:(want d 0 ⟨#[]⟩).bad = 0:=by rw [SynSpec.want_yes hb,(on_bad d).1]; exact goo_good hg
 refine ⟨h1,?_⟩
 unfold parseC
 rw [if_neg (fun h' => h' h1),hr]
 unfold endPc
 dsimp only
 rw [if_neg (fun h' => h' hw)]
theorem flat_le {α β:Type} (f:α → List β) (w:α → Nat) (A B:Nat):∀ {L:List α},(∀ x ∈ L,(f x).length ≤ A + B * w x) → (L.flatMap f).length ≤ A * L.length + B * (L.map w).sum
 | [],_ => by simp
 | x :: r,h => by
   have h1:=h x (by simp)
   have h2:=flat_le f w A B (L:=r) fun y hy => h y (by simp [hy])
   rw [List.flatMap_cons,List.length_append,List.length_cons,List.map_cons,List.sum_cons,Nat.mul_add,Nat.mul_add]
   omega
def wA (ts:List Ta):Nat:=(ts.map fun t => 1 + t.ac.x.length).sum
def wT (t:Tt):Nat:=1 + wA t.ts + (gFlat t.g).length
def wS (t:Ts):Nat:=wA t.en + wA t.ex + (t.tr.map wT).sum
theorem txA_w {t:Ta} (h:t.Ok):(txA t).size ≤ 30 * (1 + t.ac.x.length) ∧ (ActSpec.tkA t).length ≤ 2 + 6 * t.ac.x.length:=by
 have h1:=name_size h.1
 unfold txA ActSpec.tkA Ta.ac
 rcases ha:t.any with _ | _
 ·have h2:=tx_size (h.2 ha).1
  have h3:=tk_len (h.2 ha).1
  simp only [Bool.false_eq_true,if_false,ByteArray.size_append,List.length_cons]
  constructor
  ·show t.s.size + 4 + (tx t.e).size ≤ _
   omega
  ·omega
 ·simp only [if_true,ByteArray.size_append,List.length_cons,List.length_nil]
  constructor
  ·show 4 + t.s.size ≤ _
   omega
  ·omega
theorem putT_w:∀ {ts:List Ta},(∀ t ∈ ts,t.Ok) → (putT ts).length ≤ 32 * wA ts ∧ (tkL ts).length ≤ 6 * wA ts
 | [],_ => by simp [putT,Lib.join_nil,tkL]
 | [t],h => by
   obtain ⟨h1,h2⟩:=txA_w (h t (by simp))
   have h3:(T (txA t)).length = (txA t).size:=rfl
   rw [putT_one,h3]
   simp only [tkL,wA,List.map_cons,List.map_nil,List.sum_cons,List.sum_nil]
   omega
 | t :: u :: r,h => by
   obtain ⟨h1,h2⟩:=txA_w (h t (by simp))
   obtain ⟨k1,k2⟩:=putT_w (ts:=u :: r) (fun v hv => h v (by simp only [List.mem_cons] at hv ⊢; exact .inr hv))
   have h3:(T (txA t)).length = (txA t).size:=rfl
   rw [putT_cons]
   simp only [List.length_append,List.length_cons,List.length_nil,h3,tkL,wA,List.map_cons,List.sum_cons] at k1 k2 ⊢
   omega
theorem txT_w {x:Tt} (h:x.Ok):(T (txT x)).length ≤ 43 * wT x ∧ (tkT x).length ≤ 8 * wT x:=by
 have h1:=headB_size h
 have h4:=tgB_size h.tg
 obtain ⟨h3,h3'⟩:=putT_w h.ts
 have hg:(guardB x.g).size ≤ 3 + 30 * (gFlat x.g).length ∧ (tkG x.g).length ≤ 2 + 6 * (gFlat x.g).length:=by
  have hx:=h.g
  cases hx':x.g with
  | none => exact ⟨by show 0 ≤ _; omega,by simp [tkG]⟩
  | some e =>
    obtain ⟨a,-⟩:=hx e hx'
    have b1:=tx_size a
    have b2:=tk_len a
    constructor
    ·unfold guardB
     rw [ByteArray.size_append,ByteArray.size_append]
     show 2 + _ + 1 ≤ 3 + 30 * (flat e).length
     omega
    ·simp only [tkG,List.length_cons,List.length_append,List.length_nil]
     show _ ≤ 2 + 6 * (flat e).length
     omega
 have ha:(actsB x.ts).size ≤ 3 + 32 * wA x.ts ∧ (tkC x.ts).length ≤ 1 + 6 * wA x.ts:=by
  unfold actsB tkC
  by_cases h0:x.ts = []
  ·rw [if_pos h0,if_pos h0]
   exact ⟨by show 0 ≤ _; omega,by simp⟩
  ·rw [if_neg h0,if_neg h0,ByteArray.size_append,List.length_cons]
   have:(putB x.ts).size = (putT x.ts).length:=by rw [← putB_T]; rfl
   exact ⟨by show 3 + _ ≤ _; omega,by omega⟩
 have h5:(tkH x).length ≤ 2:=by unfold tkH; split <;> simp
 have h6:(tkD x.tg).length ≤ 2:=by unfold tkD; split <;> simp
 constructor
 ·show (txT x).size ≤ _
  unfold txT wT
  simp only [ByteArray.size_append]
  show _ + _ + _ + _ + 1 ≤ _
  omega
 ·unfold tkT wT
  simp only [List.length_append,List.length_cons,List.length_nil]
  omega
theorem inT_len (n:Nat):(inT n).length = 2 * n:=by simp [inT]
theorem lineA_w {w:List UInt8} (hw:w.length ≤ 5) {n:Nat} (hn:n ≤ 13) {ts:List Ta} (h:∀ t ∈ ts,t.Ok):(lineA w n ts).length ≤ 34 + 32 * wA ts ∧ (actK w ts).length ≤ 2 + 6 * wA ts:=by
 obtain ⟨h1,h2⟩:=putT_w h
 unfold lineA actK
 by_cases h0:ts = []
 ·rw [if_pos h0,if_pos h0]
  simp
 ·rw [if_neg h0,if_neg h0]
  simp only [List.length_append,List.length_cons,List.length_nil,inT_len]
  omega
theorem insT_w {n:Nat} (hn:n ≤ 13) {t:Ts} (h:t.Ok):(insT n t).length ≤ 68 + 70 * wS t ∧ (insK t).length ≤ 4 + 8 * wS t:=by
 obtain ⟨a1,a2⟩:=lineA_w (w:=[101,110,116,101,114]) (by decide) hn h.en
 obtain ⟨b1,b2⟩:=lineA_w (w:=[101,120,105,116]) (by decide) hn h.ex
 have c1:=flat_le (lineT n) wT 0 70 (L:=t.tr) fun x hx => by
  have:=(txT_w (h.tr x hx)).1
  have h0:1 ≤ wT x:=by unfold wT; omega
  simp only [lineT,List.length_append,List.length_cons,List.length_nil,inT_len]
  omega
 have c2:=flat_le tkT wT 0 8 (L:=t.tr) fun x hx => by
  have:=(txT_w (h.tr x hx)).2
  omega
 unfold insT insK wS
 simp only [List.length_append]
 omega
theorem word_len (k:Int):(wordT k).length ≤ 4:=by
 unfold wordT
 split
 ·simp
 ·split <;> simp
section
variable {sh:List Sh} {l:List Ts}
theorem stT_w (H:Stand sh l) {i:Nat} (hi:i < sh.length):(stT sh l i ++ closT sh l i).length ≤ 424 + 70 * (l[i]?).elim 0 wS ∧ (stK sh l i ++ closK sh l i).length ≤ 19 + 8 * (l[i]?).elim 0 wS:=by
 obtain ⟨t,ht,hok,-,-,-,-⟩:=H.at_ hi
 have hd:=H.deep i hi
 have hn:=name_size hok.nm
 have hw:=word_len t.kind
 have hT:(T t.s).length = t.s.size:=rfl
 obtain ⟨a1,a2⟩:=insT_w (n:=(up sh i).length + 2) (by omega) hok
 have c1:(closT sh l i).length ≤ 26 * (sf sh i).length:=by
  have:=flat_le (oneT sh l i) (fun _ => 0) 26 0 (L:=sf sh i) fun j hj => by
   have hj':=H.deep j (by have:=ShapeSpec.sf_le hj; omega)
   unfold oneT
   split
   ·simp only [List.length_append,List.length_cons,List.length_nil,inT_len]; omega
   ·simp
  unfold closT
  omega
 have c2:(closK sh l i).length ≤ 1 * (sf sh i).length:=by
  have:=flat_le (oneK sh l i) (fun _ => 0) 1 0 (L:=sf sh i) fun j _ => by
   unfold oneK
   split <;> simp
  unfold closK
  omega
 have hsf:(sf sh i).length = (up sh i).length + 1:=rfl
 have s1:(stT sh l i).length ≤ 112 + 70 * wS t ∧ (stK sh l i).length ≤ 7 + 8 * wS t:=by
  unfold stT stK
  rw [ht]
  simp only [Option.elim]
  split
  ·simp only [headT,headK,List.length_append,List.length_cons,List.length_nil,inT_len]
   omega
  ·simp only [headT,headK,List.length_append,List.length_cons,List.length_nil,inT_len]
   omega
 rw [ht]
 simp only [List.length_append,Option.elim]
 omega
end
theorem sep_w:∀ {l:List ByteArray},(∀ e ∈ l,isName e.data.toList = true) → (sepT l).length ≤ 14 * l.length ∧ (sepK l).length ≤ 2 * l.length
 | [],_ => by simp [sepT,Lib.join_nil,sepK]
 | [s],h => by
   have:=name_size (h s (by simp))
   have hT:(T s).length = s.size:=rfl
   unfold sepT
   rw [List.map_cons,List.map_nil,Lib.join_one]
   simp only [sepK,List.length_cons,List.length_nil]
   omega
 | s :: u :: r,h => by
   have:=name_size (h s (by simp))
   have hT:(T s).length = s.size:=rfl
   obtain ⟨h1,h2⟩:=sep_w (l:=u :: r) (fun e he => h e (by simp only [List.mem_cons] at he ⊢; exact .inr he))
   unfold sepT at h1 ⊢
   rw [List.map_cons] at h1
   rw [List.map_cons,List.map_cons,join_two]
   simp only [sepK,List.length_append,List.length_cons,List.length_nil] at h1 h2 ⊢
   omega
theorem int_len {n:Int} (h:smallV n = true):(ValSpec.text n).length ≤ 8 ∧ (intK n).length ≤ 2:=by
 have h1:=small_abs h
 have:=ValSpec.digs_len 6 n.natAbs (by omega)
 unfold ValSpec.text intK
 split
 ·simp only [List.length_append,List.length_cons,List.length_nil]; omega
 ·simp only [List.length_append,List.length_cons,List.length_nil]; omega
theorem var_w {v:Vr} (h:okV v = true):(varT v).length ≤ 70 ∧ (varK v).length ≤ 12:=by
 simp only [okV,Bool.and_eq_true] at h
 obtain ⟨h1,h2,h3,h4⟩:=h
 have a:=int_len h2
 have b:=int_len h3
 have c:=int_len h4
 have d:=name_size h1
 have hT:(T v.s).length = v.s.size:=rfl
 unfold varT varK
 simp only [List.length_append,List.length_cons,List.length_nil,inT_len]
 omega
end PrintSpec
end Go.Proofs.YtcofikjpplkjdaaGreatDoor
namespace Go.Proofs.YtcofikjpplkjdaaGreatDoor
open Go.RowKit ShapeSpec
set_option maxRecDepth 100000
def AtUp (n:Nat) (i:Value) (Q:Int → Prop):Prop:=∃ j:Int,i = .int .i64 j ∧ j < n ∧ Q j
def DepQ (l:List Sh) (d:Nat) (v:Value) (j:Int):Prop:=∃ k:Nat,v = .int .i64 k ∧ ((0 ≤ j ∧ k + (up l j.toNat).length + 1 = d) ∨ (j = -1 ∧ k = d))
theorem depQ_bd {l:List Sh} {d k:Nat} {j:Int} (h:(0 ≤ j ∧ k + (up l j.toNat).length + 1 = d) ∨ (j = -1 ∧ k = d)):k ≤ d:=by omega
theorem depQ_next {l:List Sh} {n d k j:Nat} (hs:SU l n) (hj:j < n) (h:k + (up l j).length + 1 = d):par l j < n ∧ par l j < j ∧ DepQ l d (.int .i64 ((k:Int) + 1)) (par l j):=by
 rcases Nat.eq_zero_or_pos j with h0 | h0
 ·subst h0
  have hr:=hs.root hj
  rw [show up l 0 = [] from rfl] at h
  rw [hr]
  exact ⟨by omega,by omega,k + 1,by simp,.inr ⟨rfl,by simpa using h⟩⟩
 ·obtain ⟨p,hp,hlt,hup,_⟩:=hs.parn hj h0
  rw [hp]
  rw [hup,sf,List.length_cons] at h
  exact ⟨by omega,by omega,k + 1,by simp,.inl ⟨by omega,by simp; omega⟩⟩
set_option maxHeartbeats 1000000 in
theorem shdepth_any (A:Option Addr) (n c:Nat) (l:List Sh) (i:Nat) (w:World) (h:Sts w (.slice A n c) l) (hs:SU l n) (hi:i < n) (hm:n ≤ 1000000) :
 Calls Tryz.prog 90 #[.slice A n c,.int .i64 i] w (SameI w ((up l i).length + 1:Nat)):=by
 have HT:=Lib.hid h
 have HS:=Lib.hid hs
 have hul:=up_length_le l i
 obtain ⟨d,hd⟩:∃ d,d = (up l i).length + 1:=⟨_,rfl⟩
 rw [← hd]
 have hdm:d ≤ 1000001:=by omega
 have HD:=Lib.hid hd
 clear h hs hd hul
 go_enter Tryz.func90,Tryz.ntmps90
 go_wp2_with fail
 go_loop [1,5] (fun i v => AtUp n i (DepQ l d v)) (fun i _ => (intOf i + 1).toNat)
 case atStart => exact ⟨i,rfl,by omega,0,rfl,.inl ⟨by omega,by rw [HD.out]; simp⟩⟩
 case round =>
  obtain ⟨j,rfl,hj,k,rfl,hq⟩:=hrel
  have hk:=depQ_bd hq
  rcases hq with ⟨h0,hq⟩ | ⟨rfl,hq⟩
  ·obtain ⟨j,rfl⟩:=Int.eq_ofNat_of_zero_le h0
   obtain ⟨b,off,rfl,hb,c1,c2⟩:=HT.out.at_ (i:=j) (by omega)
   obtain ⟨hp1,hp2,hp3⟩:=depQ_next (j:=j) HS.out (by omega) hq
   have HP:=Lib.hid hp3
   obtain ⟨p,hp⟩:∃ p,p = par l j:=⟨_,rfl⟩
   rw [← hp] at c2 hp1 hp2 HP
   clear hq hp hp3 c1
   go_wp2_with fail
   go_round
   case rel => exact ⟨p,rfl,hp1,HP.out⟩
   case measure => simp [intOf]; omega
  ·subst hq
   go_wp2_with fail
   go_ret
   exact ⟨rfl,rfl⟩
def HangQ (l:List Sh) (i q:Nat) (v:Value):Prop:=∃ j:Nat,v = .int .i64 j ∧ j < i ∧ (q ∈ sf l (i - 1) ↔ q ∈ sf l j)
theorem hangQ_next {l:List Sh} {n i j q:Nat} (hs:SU l n) (hi:i ≤ n) (hj:j < i) (hq:q < j) (h:q ∈ sf l (i - 1) ↔ q ∈ sf l j):0 ≤ par l j ∧ par l j < j ∧ HangQ l i q (.int .i64 (par l j)):=by
 obtain ⟨p,hp,hlt,hup,_⟩:=hs.parn (show j < n by omega) (by omega)
 rw [hp]
 refine ⟨by omega,by omega,p,rfl,by omega,h.trans ?_⟩
 rw [← hup]
 exact ⟨fun hm => sf_up hm (by omega),up_in⟩
theorem hang_zero {l:List Sh}:hangB l 0 = decide (par l 0 = -1):=rfl
theorem hang_neg {l:List Sh} {i:Nat} (h0:i ≠ 0) (h:par l i < 0):hangB l i = false:=by
 unfold hangB
 rw [if_neg h0,decide_eq_false (show ¬ 0 ≤ par l i by omega)]
 rfl
theorem hang_at {l:List Sh} {i q:Nat} (h0:i ≠ 0) (h:par l i = q) (hm:q ∈ sf l (i - 1)):hangB l i = decide (kind l q ≠ 1):=by
 have:=sf_le hm
 unfold hangB
 rw [if_neg h0,h,decide_eq_true (show (0:Int) ≤ q by omega),decide_eq_true (show (q:Int) < i by omega),show ((q:Nat):Int).toNat = q from rfl,decide_eq_true hm]
 simp
theorem hang_off {l:List Sh} {i q:Nat} (h0:i ≠ 0) (h:par l i = q) (hm:q ∉ sf l (i - 1)):hangB l i = false:=by
 unfold hangB
 rw [if_neg h0,h,show ((q:Nat):Int).toNat = q from rfl,decide_eq_false hm]
 simp
set_option maxHeartbeats 2000000 in
theorem hangs_any (A:Option Addr) (n c:Nat) (l:List Sh) (i:Nat) (w:World) (h:Sts w (.slice A n c) l) (hs:SU l i) (hi:i < n) (hm:n ≤ 1000000) :
 Calls Tryz.prog 125 #[.slice A n c,.int .i64 i] w (SameB w (hangB l i)):=by
 have HT:=Lib.hid h
 have HS:=Lib.hid hs
 obtain ⟨b,off,rfl,hb,c1,c2⟩:=h.at_ hi
 clear h hs c1
 obtain ⟨p,hp⟩:∃ p,p = par l i:=⟨_,rfl⟩
 rw [← hp] at c2
 have HP:=Lib.hid hp
 clear hp
 rcases Nat.eq_zero_or_pos i with h0 | h0
 ·subst h0
  have HH:Hid (hangB l 0 = decide (p = -1)):=Lib.hid (by rw [hang_zero,← HP.out])
  obtain ⟨r,hr⟩:∃ r,r = hangB l 0:=⟨_,rfl⟩
  rw [← hr] at HH ⊢
  clear hr
  have c2':w.cell? ⟨b,off + 2,none⟩ = some (.int .i64 p):=by simpa using c2
  clear c2
  by_cases hpp:p = -1
  ·have g1:(p == -1) = true:=by simpa using hpp
   have HR:Hid (r = true):=Lib.hid (by rw [HH.out]; simpa using hpp)
   clear hpp
   go_enter Tryz.func125,Tryz.ntmps125
   go_wp2_with fail
   go_ret
   exact ⟨ret_bool HR.out.symm,rfl⟩
  ·have g1:(p == -1) = false:=by simpa using hpp
   have HR:Hid (r = false):=Lib.hid (by rw [HH.out]; simpa using hpp)
   clear hpp
   go_enter Tryz.func125,Tryz.ntmps125
   go_wp2_with fail
   go_ret
   exact ⟨ret_bool HR.out.symm,rfl⟩
 ·have h0':i ≠ 0:=by omega
  have g0:((i:Int) == 0) = false:=by simp; omega
  by_cases hneg:p < 0
  ·have HR:Hid (hangB l i = false):=Lib.hid (hang_neg h0' (by rw [← HP.out]; exact hneg))
   clear h0'
   go_enter Tryz.func125,Tryz.ntmps125
   go_wp2_with fail
   go_ret
   exact ⟨ret_bool HR.out.symm,rfl⟩
  ·obtain ⟨q,rfl⟩:=Int.eq_ofNat_of_zero_le (Int.not_lt.1 hneg)
   have HA:Hid (q ∈ sf l (i - 1) → hangB l i = decide (kind l q ≠ 1)):=Lib.hid (hang_at h0' HP.out.symm)
   have HO:Hid (q ∉ sf l (i - 1) → hangB l i = false):=Lib.hid (hang_off h0' HP.out.symm)
   obtain ⟨r,hr⟩:∃ r,r = hangB l i:=⟨_,rfl⟩
   rw [← hr] at HA HO ⊢
   have hi1:1 ≤ (i:Int):=by omega
   clear hneg hr h0' h0
   go_enter Tryz.func125,Tryz.ntmps125
   go_wp2_with fail
   go_loop [6] (fun v => HangQ l i q v) (fun v => (intOf v).toNat)
   case atStart => exact ⟨i - 1,by congr 1; omega,by omega,Iff.rfl⟩
   case round =>
    obtain ⟨j,rfl,hj,hiff⟩:=hrel
    have HI:=Lib.hid hiff
    clear hiff
    rcases Nat.lt_trichotomy j q with hlt | heq | hgt
    ·have HR:Hid (r = false):=Lib.hid (HO.out (fun hm => by have:=sf_le (HI.out.1 hm); omega))
     have g1:((j:Int) == (q:Int)) = false:=by simp; omega
     have g2:(j == q) = false:=by simp; omega
     have g3:decide (q < j) = false:=decide_eq_false (by omega)
     go_wp2_with fail
     go_ret
     exact ⟨ret_bool HR.out.symm,rfl⟩
    ·subst heq
     obtain ⟨_,_,heq,_,c1,_⟩:=HT.out.at_ (i:=j) (by omega)
     cases heq
     have HR:Hid (r = decide (kind l j ≠ 1)):=Lib.hid (HA.out (HI.out.2 (sf_self _ _)))
     obtain ⟨kd,hkd⟩:∃ kd,kd = kind l j:=⟨_,rfl⟩
     rw [← hkd] at HR c1
     have hji:(j:Int) < n:=by omega
     have hjn:j < n:=by omega
     clear hkd
     by_cases hk1:kd = 1
     ·have g1:(kd != 1) = false:=by simpa using hk1
      have HR2:Hid (r = false):=Lib.hid (by rw [HR.out]; simpa using hk1)
      clear hk1
      go_wp2_with fail
      go_ret
      exact ⟨ret_bool HR2.out.symm,rfl⟩
     ·have g1:(kd != 1) = true:=by simpa using hk1
      have HR2:Hid (r = true):=Lib.hid (by rw [HR.out]; simpa using hk1)
      clear hk1
      go_wp2_with fail
      go_ret
      exact ⟨ret_bool HR2.out.symm,rfl⟩
    ·obtain ⟨_,_,heq,_,_,c2'⟩:=HT.out.at_ (i:=j) (by omega)
     cases heq
     obtain ⟨hp1,hp2,hp3⟩:=hangQ_next HS.out (Nat.le_refl _) hj hgt HI.out
     have HN:=Lib.hid hp3
     obtain ⟨p',hp'⟩:∃ p',p' = par l j:=⟨_,rfl⟩
     rw [← hp'] at c2' hp1 hp2 HN
     have hjn:j < n:=by omega
     clear hp' hp3
     go_wp2_with fail
     go_round
     case rel => exact HN.out
     case measure => simp [intOf]; omega
theorem good_kind {l:List Sh} {i:Nat} (h:kind l i < 1 ∨ 3 < kind l i):goodB l i = false:=by
 unfold goodB
 rcases h with h | h
 ·rw [decide_eq_false (show ¬ 1 ≤ kind l i by omega)]
  rfl
 ·rw [decide_eq_false (show ¬ kind l i ≤ 3 by omega)]
  simp
theorem good_hang {l:List Sh} {i:Nat} (h1:1 ≤ kind l i) (h2:kind l i ≤ 3):goodB l i = hangB l i:=by
 unfold goodB
 rw [decide_eq_true h1,decide_eq_true h2]
 rfl
def StandRel (W:World) (l:List Sh) (n:Nat) (v:Value) (wr:World):Prop:=∃ k:Nat,k ≤ n ∧ v = .int .i64 k ∧ SU l k ∧ Below W.heap.size W wr
set_option maxHeartbeats 4000000 in
theorem stand_any (A:Option Addr) (n c:Nat) (l:List Sh) (w:World) (h:Sts w (.slice A n c) l) (hm:n ≤ 1000000) :
 Calls Tryz.prog 89 #[.slice A n c] w (RetB w (standB l)):=by
 have HT:=Lib.hid h
 have HN:=Lib.hid h.len
 have HF:=Lib.hid (fun i (hi:i < l.length) (hg:goodB l i = false) => stand_not hi hg)
 have HO:=Lib.hid (fun (h0:0 < l.length) (hs:SU l l.length) => stand_of h0 hs)
 have HZ:Hid (l.length = 0 → standB l = false):=Lib.hid (fun e => by cases l with | nil => rfl | cons => simp at e)
 obtain ⟨r,hr⟩:∃ r,r = standB l:=⟨_,rfl⟩
 rw [← hr] at HF HO HZ ⊢
 clear h hr
 go_enter Tryz.func89,Tryz.ntmps89
 go_wp2_with fail
 go_loopw [7] (fun v wr => StandRel w l n v wr) (fun v _ => n - (intOf v).toNat)
 case atStart => exact ⟨0,Nat.zero_le _,rfl,SU.zero l,Below.refl _ _⟩
 case round =>
  obtain ⟨k,hk,rfl,hsu,hbw⟩:=hrel
  have HSU:=Lib.hid hsu
  have HBW:=Lib.hid hbw
  clear hsu hbw
  by_cases hlt:k < n
  ·have hltI:(k:Int) < n:=by omega
   have HT1:=Lib.hid (HT.out.keep HBW.out)
   obtain ⟨t,ht⟩:∃ t,l[k]? = some t:=get_some (by rw [← HN.out]; exact hlt)
   obtain ⟨b,off,s,a3,n3,c3,a4,n4,c4,a5,n5,c5,rfl,hb,c0,c1,c2,c3',c4',c5'⟩:=HT1.out.all ht
   have hkd:=kind_at ht
   obtain ⟨kd,hkd'⟩:∃ kd,kd = t.kind:=⟨_,rfl⟩
   rw [← hkd'] at hkd c1
   have HK:=Lib.hid hkd
   have HB1:Hid (∀ o:Obj,Below w.heap.size w (wr.alloc o)):=Lib.hid (fun o => HBW.out.alloc HBW.out.size o)
   have HHG:=Lib.hid (fun w1 h => hangs_any (some ⟨b,off,none⟩) n c l k w1 h HSU.out hlt hm)
   obtain ⟨q,hq⟩:∃ q,q = t.par:=⟨_,rfl⟩
   rw [← hq] at c2
   clear ht hkd hkd' hq
   rcases Int.lt_trichotomy kd 1 with h1 | h1 | h1
   ·have HR:Hid (r = false):=Lib.hid (HF.out k (by rw [← HN.out]; exact hlt) (good_kind (.inl (by rw [HK.out]; exact h1))))
    have g1:decide (kd < 1) = true:=decide_eq_true h1
    go_wp2_with fail
    go_ret
    exact ⟨ret_bool HR.out.symm,HB1.out _⟩
   all_goals
    by_cases h3:3 < kd
    ·first
      | (exfalso; omega)
      | (have HR:Hid (r = false):=Lib.hid (HF.out k (by rw [← HN.out]; exact hlt) (good_kind (.inr (by rw [HK.out]; exact h3))))
         have g1:decide (kd < 1) = false:=decide_eq_false (by omega)
         have g3:decide (3 < kd) = true:=decide_eq_true h3
         go_wp2_with fail
         go_ret
         exact ⟨ret_bool HR.out.symm,HB1.out _⟩)
    ·have HG:Hid (goodB l k = hangB l k):=Lib.hid (good_hang (by rw [HK.out]; omega) (by rw [HK.out]; omega))
     obtain ⟨g,hg⟩:∃ g,g = hangB l k:=⟨_,rfl⟩
     rw [← hg] at HG HHG
     have g1:decide (kd < 1) = false:=decide_eq_false (by omega)
     have g3:decide (3 < kd) = false:=decide_eq_false h3
     clear hg h1 h3
     have HTA:Hid (∀ o:Obj,Sts (wr.alloc o) (.slice (some ⟨b,off,none⟩) n c) l):=Lib.hid (fun o => HT1.out.alloc o)
     cases g with
     | true =>
       go_wp2_with (go_at_call 125; (with_reducible refine (HHG.out _ (HTA.out _)).mono ?_); rintro e w' ⟨rfl,rfl⟩)
       go_roundw
       case rel => exact ⟨k + 1,by omega,by simp,HSU.out.next HG.out,HB1.out _⟩
       case measure => simp [intOf]; omega
     | false =>
       have HR:Hid (r = false):=Lib.hid (HF.out k (by rw [← HN.out]; exact hlt) HG.out)
       go_wp2_with (go_at_call 125; (with_reducible refine (HHG.out _ (HTA.out _)).mono ?_); rintro e w' ⟨rfl,rfl⟩)
       go_ret
       exact ⟨ret_bool HR.out.symm,HB1.out _⟩
  ·obtain rfl:k = n:=by omega
   rcases Nat.eq_zero_or_pos k with h0 | h0
   ·subst h0
    have HR:Hid (r = false):=Lib.hid (HZ.out HN.out.symm)
    go_wp2_with fail
    go_ret
    exact ⟨ret_bool HR.out.symm,HBW.out⟩
   ·have HR:Hid (r = true):=Lib.hid (HO.out (by rw [← HN.out]; exact h0) (by rw [← HN.out]; exact HSU.out))
    have hkI:0 < (k:Int):=by omega
    go_wp2_with fail
    go_ret
    exact ⟨ret_bool HR.out.symm,HBW.out⟩
theorem deep_not {l:List Sh} {i:Nat} (hi:i < l.length) (h:11 < (up l i).length):deepB l = true:=by
 simp only [deepB,List.any_eq_true,List.mem_range,decide_eq_true_eq]
 exact ⟨i,hi,h⟩
theorem deep_of {l:List Sh} (h:∀ i,i < l.length → ¬ 11 < (up l i).length):deepB l = false:=by
 simp only [deepB,List.any_eq_false,List.mem_range,decide_eq_true_eq]
 exact h
theorem shchk_full {l:List Sh} (h:60 < l.length):chk l = 8:=if_pos h
theorem chk_arg {l:List Sh} (h:¬ 60 < l.length) (hs:standB l = false):chk l = 1:=by unfold chk; rw [if_neg h,if_pos hs]
theorem chk_deep {l:List Sh} (h:¬ 60 < l.length) (hs:standB l = true):chk l = if deepB l = true then 6 else 0:=by unfold chk; rw [if_neg h,if_neg (by simp [hs])]
def DeepQ (l:List Sh) (n:Nat) (v:Value):Prop:=∃ k:Nat,k ≤ n ∧ v = .int .i64 k ∧ ∀ i,i < k → ¬ 11 < (up l i).length
set_option maxHeartbeats 2000000 in
theorem shpcheck_any (A:Option Addr) (n c:Nat) (l:List Sh) (w:World) (h:Sts w (.slice A n c) l) (hm:n ≤ 9223372036854775807) :
 Calls Tryz.prog 54 #[.slice A n c] w (RetI w (chk l)):=by
 have hn:=h.len
 by_cases h60:60 < n
 ·have HR:Hid (chk l = 8):=Lib.hid (shchk_full (by omega))
  have h60':(60:Int) < n:=by omega
  clear h hn
  go_enter Tryz.func54,Tryz.ntmps54
  go_wp2_with fail
  go_ret
  exact ⟨ret_int HR.out.symm,Below.refl _ _⟩
 ·have h60':¬ (60:Int) < n:=by omega
  have HST:=Lib.hid (stand_any A n c l w h (by omega))
  have HA:Hid (standB l = false → chk l = 1):=Lib.hid (chk_arg (by omega))
  have HD:Hid (standB l = true → chk l = if deepB l = true then 6 else 0):=Lib.hid (chk_deep (by omega))
  cases hs:standB l with
  | false =>
    rw [hs] at HST
    have HR:Hid (chk l = 1):=Lib.hid (HA.out hs)
    clear h hn HA HD hs
    go_enter Tryz.func54,Tryz.ntmps54
    go_wp2_with (go_at_call 89; (with_reducible refine HST.out.mono ?_))
    rintro e w1 ⟨rfl,hb⟩
    go_wp2_with fail
    go_ret
    exact ⟨ret_int HR.out.symm,hb⟩
  | true =>
    rw [hs] at HST
    have HSU:Hid (SU l n):=Lib.hid (by rw [hn]; exact (stand_su hs).2)
    have HR:Hid (chk l = if deepB l = true then 6 else 0):=Lib.hid (HD.out hs)
    have HT:=Lib.hid h
    have HN:=Lib.hid hn
    clear h hn HA HD hs
    go_enter Tryz.func54,Tryz.ntmps54
    go_wp2_with (go_at_call 89; (with_reducible refine HST.out.mono ?_))
    rintro e w1 ⟨rfl,hb⟩
    have HT1:=Lib.hid (HT.out.keep hb)
    have HB:=Lib.hid hb
    clear hb
    go_wp2_with fail
    go_loop [12] (fun v => DeepQ l n v) (fun v => n - (intOf v).toNat)
    case atStart => exact ⟨0,Nat.zero_le _,rfl,fun i hi => absurd hi (by omega)⟩
    case round =>
     obtain ⟨k,hk,rfl,hq⟩:=hrel
     have HQ:=Lib.hid hq
     clear hq
     by_cases hlt:k < n
     ·have HDP:=Lib.hid (shdepth_any A n c l k w1 HT1.out HSU.out hlt (by omega))
      have hul:=up_length_le l k
      obtain ⟨u,hu⟩:∃ u,u = (up l k).length:=⟨_,rfl⟩
      rw [← hu] at HDP hul
      have HU:=Lib.hid hu
      have hltI:(k:Int) < n:=by omega
      clear hu
      by_cases hd:11 < u
      ·have HX:Hid (chk l = 6):=Lib.hid (by rw [HR.out,if_pos (deep_not (by rw [← HN.out]; exact hlt) (by rw [← HU.out]; exact hd))])
       have hd1:(12:Int) < ((u + 1:Nat):Int):=by omega
       have hd2:12 < u + 1:=by omega
       go_wp2_with (go_at_call 90; (with_reducible refine HDP.out.mono ?_); rintro e w' ⟨rfl,rfl⟩)
       go_ret
       exact ⟨ret_int HX.out.symm,HB.out⟩
      ·have hd1:¬ (12:Int) < ((u + 1:Nat):Int):=by omega
       have hd2:¬ 12 < u + 1:=by omega
       go_wp2_with (go_at_call 90; (with_reducible refine HDP.out.mono ?_); rintro e w' ⟨rfl,rfl⟩)
       go_round
       case rel => exact ⟨k + 1,by omega,by simp,fun i hi => by
        by_cases e:i = k
        ·rw [e,← HU.out]; exact hd
        ·exact HQ.out i (by omega)⟩
       case measure => simp [intOf]; omega
     ·obtain rfl:k = n:=by omega
      have HX:Hid (chk l = 0):=Lib.hid (by rw [HR.out,if_neg (by rw [deep_of (fun i hi => HQ.out i (by rw [HN.out]; exact hi))]; simp)])
      go_wp2_with fail
      go_ret
      exact ⟨ret_int HX.out.symm,HB.out⟩
def hasB (l:List Sh) (i:Int):Bool:=decide (0 ≤ i) && decide (i < l.length) && (chk l == 0)
theorem has_yes {l:List Sh} {i:Int} (h:hasB l i = true):∃ k:Nat,i = k ∧ k < l.length ∧ chk l = 0:=by
 simp [hasB] at h
 obtain ⟨⟨h1,h2⟩,h3⟩:=h
 exact ⟨i.toNat,by omega,by omega,h3⟩
set_option maxHeartbeats 1000000 in
theorem has_any (A:Option Addr) (n c:Nat) (l:List Sh) (i:Int) (w:World) (h:Sts w (.slice A n c) l) (hm:n ≤ 9223372036854775807) :
 Calls Tryz.prog 113 #[.slice A n c,.int .i64 i] w (RetB w (hasB l i)):=by
 have hn:=h.len
 have HC:=Lib.hid (shpcheck_any A n c l w h hm)
 obtain ⟨ch,hch⟩:∃ ch,ch = chk l:=⟨_,rfl⟩
 rw [← hch] at HC
 have HH:Hid (hasB l i = (decide (0 ≤ i) && decide (i < n) && (ch == 0))):=Lib.hid (by rw [hn,hch]; rfl)
 obtain ⟨r,hr⟩:∃ r,r = hasB l i:=⟨_,rfl⟩
 rw [← hr] at HH ⊢
 clear h hn hch hr
 by_cases h0:0 ≤ i
 ·have g0:decide (0 ≤ i) = true:=decide_eq_true h0
  by_cases h1:i < n
  ·have g1:decide (i < n) = true:=decide_eq_true h1
   have HR:Hid (r = (ch == 0)):=Lib.hid (by rw [HH.out,g0,g1]; rfl)
   by_cases hc:ch = 0
   ·have gc:(ch == 0) = true:=by simpa using hc
    have HR2:Hid (r = true):=Lib.hid (HR.out.trans gc)
    clear hc
    go_enter Tryz.func113,Tryz.ntmps113
    go_wp2_with (go_at_call 54; (with_reducible refine HC.out.mono ?_))
    rintro e w1 ⟨rfl,hb⟩
    go_wp2_with fail
    go_ret
    exact ⟨ret_bool HR2.out.symm,hb⟩
   ·have gc:(ch == 0) = false:=by simpa using hc
    have HR2:Hid (r = false):=Lib.hid (HR.out.trans gc)
    clear hc
    go_enter Tryz.func113,Tryz.ntmps113
    go_wp2_with (go_at_call 54; (with_reducible refine HC.out.mono ?_))
    rintro e w1 ⟨rfl,hb⟩
    go_wp2_with fail
    go_ret
    exact ⟨ret_bool HR2.out.symm,hb⟩
  ·have g1:decide (i < n) = false:=decide_eq_false h1
   have HR:Hid (r = false):=Lib.hid (by rw [HH.out,g0,g1]; rfl)
   go_enter Tryz.func113,Tryz.ntmps113
   go_wp2_with fail
   go_ret
   exact ⟨ret_bool HR.out.symm,Below.refl _ _⟩
 ·have g0:decide (0 ≤ i) = false:=decide_eq_false h0
  have HR:Hid (r = false):=Lib.hid (by rw [HH.out,g0]; rfl)
  go_enter Tryz.func113,Tryz.ntmps113
  go_wp2_with fail
  go_ret
  exact ⟨ret_bool HR.out.symm,Below.refl _ _⟩
end Go.Proofs.YtcofikjpplkjdaaGreatDoor
namespace Go.Proofs.YtcofikjpplkjdaaGreatDoor
open Go.RowKit ShapeSpec
set_option maxRecDepth 100000
def kidsA (l:List Sh) (i:Int):List Int:=if hasB l i = true then kids l i.toNat else []
theorem has_at {l:List Sh} {n:Nat} {i:Int} (hn:n = l.length) (h:hasB l i = true):∃ k:Nat,i = k ∧ i.toNat = k ∧ k < n ∧ n ≤ 60 ∧ SU l n:=by
 obtain ⟨k,rfl,hk,hc⟩:=has_yes h
 subst hn
 exact ⟨k,rfl,rfl,hk,(chk_ok hc).1,chk_su hc⟩
end Go.Proofs.YtcofikjpplkjdaaGreatDoor
namespace Go.Proofs.YtcofikjpplkjdaaGreatDoor
open Go.RowKit ShapeSpec
set_option maxRecDepth 100000
end Go.Proofs.YtcofikjpplkjdaaGreatDoor
namespace Go.Proofs.YtcofikjpplkjdaaGreatDoor
open Go.RowKit ShapeSpec
set_option maxRecDepth 100000
end Go.Proofs.YtcofikjpplkjdaaGreatDoor
namespace Go.Proofs.YtcofikjpplkjdaaGreatDoor
open Go.RowKit Go.Sort CurSpec TermSpec EvalSpec ActSpec NamesSpec ExprSpec TransSpec SynSpec PrintSpec
open ShapeSpec (Sh up sf endOf SU)
set_option maxRecDepth 100000
def SameS (W:World) (s:ByteArray) (e:Ending) (w':World):Prop:=e = .returned (.string s) ∧ W = w'
theorem bs_size (l:List UInt8):(bs l).size = l.length:=by simp [bs,ByteArray.size]
theorem sh_of (l:List Ts):(l.map Ts.sx).map shOf = l.map fun t => ⟨t.kind,t.par⟩:=by rw [List.map_map]; rfl
theorem empty_of (l:List Ts) (sh:List Sh) {i:Nat} {t:Ts} (ht:l[i]? = some t):emptyB sh l i = (decide (t.en.length = 0) && (decide (t.ex.length = 0) && (decide (t.tr.length = 0) && decide ((ShapeSpec.kids sh i).length = 0)))):=by
 unfold emptyB bareB
 rw [ht]
 simp only [Option.elim]
 have he:∀ {α:Type} (l:List α),l.isEmpty = decide (l.length = 0):=fun l => by cases l <;> simp
 rw [he,he,he,show decide (ShapeSpec.kids sh i = []) = decide ((ShapeSpec.kids sh i).length = 0) by simp [List.length_eq_zero_iff]]
 simp [Bool.and_assoc]
end Go.Proofs.YtcofikjpplkjdaaGreatDoor
namespace Go.Proofs.YtcofikjpplkjdaaGreatDoor
open Go.RowKit ShapeSpec
set_option maxRecDepth 100000
end Go.Proofs.YtcofikjpplkjdaaGreatDoor
namespace Go.Proofs.YtcofikjpplkjdaaGreatDoor
open Go.RowKit TermSpec EvalSpec ActSpec NamesSpec
set_option maxRecDepth 100000
end Go.Proofs.YtcofikjpplkjdaaGreatDoor
namespace Go.Proofs.YtcofikjpplkjdaaGreatDoor
open Go.RowKit TermSpec EvalSpec ActSpec NamesSpec ExprSpec TransSpec
set_option maxRecDepth 100000
end Go.Proofs.YtcofikjpplkjdaaGreatDoor
namespace Go.Proofs.YtcofikjpplkjdaaGreatDoor
open Go.RowKit Go.Sort CurSpec TermSpec EvalSpec ActSpec NamesSpec ExprSpec TransSpec SynSpec PrintSpec
set_option maxRecDepth 100000
structure FitM (x:Cx):Prop where
 s:x.s.size ≤ 9223372036854775807
 evs:∀ e ∈ x.evs,e.size ≤ 9223372036854775807
 vars:∀ v ∈ x.vars,v.s.size ≤ 9223372036854775807
 stl:x.sts.length ≤ 100000
 sts:∀ s ∈ x.sts,s.s.size ≤ 9223372036854775807 ∧ (∀ a ∈ s.en,SmallA a) ∧ s.en.length ≤ 100000 ∧ (∀ a ∈ s.ex,SmallA a) ∧ s.ex.length ≤ 100000 ∧ s.tr.length ≤ 100000 ∧ ∀ t ∈ s.tr,SmallT t
end Go.Proofs.YtcofikjpplkjdaaGreatDoor