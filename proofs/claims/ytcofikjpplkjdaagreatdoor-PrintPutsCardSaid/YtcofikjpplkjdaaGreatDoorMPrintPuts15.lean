/- PrintScan, ShapeProg, ShapeTell, ShapeRef, ShapeRefTell, PrintIn, joined. -/
import Derived.Test.YtcofikjpplkjdaaGreatDoorMPrintPuts14
import Derived.Test.YtcofikjpplkjdaaGreatDoorMPrintPuts13
import Derived.Deep.RegionHeld3
namespace Go.Proofs.YtcofikjpplkjdaaGreatDoor
namespace PrintSpec
open CurSpec TermSpec EvalSpec NamesSpec ExprSpec ScanSpec ActSpec TransSpec SynSpec
open ShapeSpec (Sh up sf endOf SU)
theorem T_bs (l:List UInt8):T (bs l) = l:=by simp [bs]
theorem sc_long {l:List UInt8}:∀ (ts:List Tx) (i j f:Nat) (acc:List Tok),Sc l i ts j → l.length ≤ i + f → acc.length ≤ 4000 → 4000 < acc.length + ts.length → (scanGo l f i acc).2.2 = 8
 | [],_,_,_,_,_,_,h1,h2 => by simp at h2; omega
 | (k,s) :: r,i,j,f,acc,⟨h1,h2,h3,h4,h5⟩,hf,ha,hl => by
   cases f with
   | zero => omega
   | succ f =>
     rw [List.length_cons] at hl
     have hle:i + s.length ≤ l.length:=by
      have:=congrArg List.length h3
      rw [List.length_take,List.length_drop] at this
      omega
     have hg:=(gap_bd hle).1
     rw [scanGo,if_neg (by omega),h2]
     dsimp only
     rw [if_neg (by simp)]
     by_cases hq:acc.length = 4000
     ·rw [if_pos hq]
     ·rw [if_neg hq]
      exact sc_long r _ j f _ h5 (by omega) (by rw [List.length_append,List.length_singleton]; omega) (by rw [List.length_append,List.length_singleton]; omega)
theorem scan_long {p:ByteArray} {ts:List Tx} (h:Ln (T p) ts) (ht:4000 < ts.length):(scanT (T p)).2.2 ≠ 0:=by
 unfold scanT
 split
 ·simp
 ·have:=h (T p) 0 [] (by simp)
  unfold scan
  rw [sc_long ts _ _ (T p).length [] this (by omega) (by simp) (by simpa using ht)]
  decide
theorem scan_ln {p:ByteArray} {ts:List Tx} (h:Ln (T p) ts) (hs:p.size ≤ 65536) (ht:ts.length ≤ 4000) :
 (scanT (T p)).2.2 = 0 ∧ ∃ d,Goo (cur0 (tkAll p)) ts d ∧ (next d).k = 0 ∧ (next d).t = ⟨#[]⟩:=by
 have hlen:(T p).length = p.size:=rfl
 have hsc:=h (T p) 0 [] (by simp)
 rw [Nat.zero_add] at hsc
 have hgl:(T p).length ≤ gap (T p) (T p).length:=(gap_bd (Nat.le_refl _)).1
 have hS:scanT (T p) = (toksAt (T p) (gap (T p) 0) ts ++ [⟨0,gap (T p) (T p).length,0⟩],0,0):=by
  unfold scanT
  rw [if_neg (by omega)]
  unfold scan
  rw [scan_sc ts _ _ _ [] hsc hgl (by omega) (by rw [List.length_nil]; omega)]
  rfl
 have hA:tkAll p = (toksAt (T p) (gap (T p) 0) ts).map (tokOf p) ++ [tokOf p ⟨0,gap (T p) (T p).length,0⟩]:=by
  unfold tkAll
  rw [hS,List.map_append]
  rfl
 obtain ⟨hn,hL⟩:=nx_toks ts _ _ (cur0 (tkAll p)) _ hsc rfl hA
 have hbad:(onN ts.length (cur0 (tkAll p))).bad = 0:=bad_on rfl _
 have hend:next (onN ts.length (cur0 (tkAll p))) = tokOf p ⟨0,gap (T p) (T p).length,0⟩:=by
  unfold next
  rw [if_pos hbad,hL]
 refine ⟨by rw [hS],_,⟨rfl,hn,rfl⟩,by rw [hend]; rfl,?_⟩
 rw [hend]
 show p.extract _ (_ + 0) = _
 apply ByteArray.ext
 simp
theorem parse_put {x:Tc} (h:x.Ok) (hs:(putC x).length ≤ 65536) (ht:(chK x).length ≤ 4000):(scanT (T (bs (putC x)))).2.2 = 0 ∧ parseC (bs (putC x)) = ⟨x.cx,0,0,0⟩:=by
 have hl:Ln (T (bs (putC x))) (chK x):=by rw [T_bs]; exact ln_chart h
 obtain ⟨h1,d,hg,hk,hT⟩:=scan_ln hl (by rw [show (bs (putC x)).size = (putC x).length by simp [bs,ByteArray.size]]; exact hs) ht
 have hr:=chart_goo h hg
 have hb:isB d 0 ⟨#[]⟩ = true:=isB_yes' (goo_good hg) hk hT
 have hw:(want d 0 ⟨#[]⟩).bad = 0:=by rw [SynSpec.want_yes hb,(on_bad d).1]; exact goo_good hg
 refine ⟨h1,?_⟩
 unfold parseC
 rw [if_neg (fun h' => h' h1),hr]
 unfold endPc
 dsimp only
 rw [if_neg (fun h' => h' hw)]
theorem flat_le {α β:Type} (f:α → List β) (w:α → Nat) (A B:Nat):∀ {L:List α},(∀ x ∈ L,(f x).length ≤ A + B * w x) → (L.flatMap f).length ≤ A * L.length + B * (L.map w).sum
 | [],_ => by simp
 | x :: r,h => by
   have h1:=h x (by simp)
   have h2:=flat_le f w A B (L:=r) fun y hy => h y (by simp [hy])
   rw [List.flatMap_cons,List.length_append,List.length_cons,List.map_cons,List.sum_cons,Nat.mul_add,Nat.mul_add]
   omega
def wA (ts:List Ta):Nat:=(ts.map fun t => 1 + t.ac.x.length).sum
def wT (t:Tt):Nat:=1 + wA t.ts + (gFlat t.g).length
def wS (t:Ts):Nat:=wA t.en + wA t.ex + (t.tr.map wT).sum
def wC (c:Tc):Nat:=(c.sts.map wS).sum
theorem txA_w {t:Ta} (h:t.Ok):(txA t).size ≤ 30 * (1 + t.ac.x.length) ∧ (ActSpec.tkA t).length ≤ 2 + 6 * t.ac.x.length:=by
 have h1:=name_size h.1
 unfold txA ActSpec.tkA Ta.ac
 rcases ha:t.any with _ | _
 ·have h2:=tx_size (h.2 ha).1
  have h3:=tk_len (h.2 ha).1
  simp only [Bool.false_eq_true,if_false,ByteArray.size_append,List.length_cons]
  constructor
  ·show t.s.size + 4 + (tx t.e).size ≤ _
   omega
  ·omega
 ·simp only [if_true,ByteArray.size_append,List.length_cons,List.length_nil]
  constructor
  ·show 4 + t.s.size ≤ _
   omega
  ·omega
theorem putT_w:∀ {ts:List Ta},(∀ t ∈ ts,t.Ok) → (putT ts).length ≤ 32 * wA ts ∧ (tkL ts).length ≤ 6 * wA ts
 | [],_ => by simp [putT,Lib.join_nil,tkL]
 | [t],h => by
   obtain ⟨h1,h2⟩:=txA_w (h t (by simp))
   have h3:(T (txA t)).length = (txA t).size:=rfl
   rw [putT_one,h3]
   simp only [tkL,wA,List.map_cons,List.map_nil,List.sum_cons,List.sum_nil]
   omega
 | t :: u :: r,h => by
   obtain ⟨h1,h2⟩:=txA_w (h t (by simp))
   obtain ⟨k1,k2⟩:=putT_w (ts:=u :: r) (fun v hv => h v (by simp only [List.mem_cons] at hv ⊢; exact .inr hv))
   have h3:(T (txA t)).length = (txA t).size:=rfl
   rw [putT_cons]
   simp only [List.length_append,List.length_cons,List.length_nil,h3,tkL,wA,List.map_cons,List.sum_cons] at k1 k2 ⊢
   omega
theorem txT_w {x:Tt} (h:x.Ok):(T (txT x)).length ≤ 43 * wT x ∧ (tkT x).length ≤ 8 * wT x:=by
 have h1:=headB_size h
 have h4:=tgB_size h.tg
 obtain ⟨h3,h3'⟩:=putT_w h.ts
 have hg:(guardB x.g).size ≤ 3 + 30 * (gFlat x.g).length ∧ (tkG x.g).length ≤ 2 + 6 * (gFlat x.g).length:=by
  have hx:=h.g
  cases hx':x.g with
  | none => exact ⟨by show 0 ≤ _; omega,by simp [tkG]⟩
  | some e =>
    obtain ⟨a,-⟩:=hx e hx'
    have b1:=tx_size a
    have b2:=tk_len a
    constructor
    ·unfold guardB
     rw [ByteArray.size_append,ByteArray.size_append]
     show 2 + _ + 1 ≤ 3 + 30 * (flat e).length
     omega
    ·simp only [tkG,List.length_cons,List.length_append,List.length_nil]
     show _ ≤ 2 + 6 * (flat e).length
     omega
 have ha:(actsB x.ts).size ≤ 3 + 32 * wA x.ts ∧ (tkC x.ts).length ≤ 1 + 6 * wA x.ts:=by
  unfold actsB tkC
  by_cases h0:x.ts = []
  ·rw [if_pos h0,if_pos h0]
   exact ⟨by show 0 ≤ _; omega,by simp⟩
  ·rw [if_neg h0,if_neg h0,ByteArray.size_append,List.length_cons]
   have:(putB x.ts).size = (putT x.ts).length:=by rw [← putB_T]; rfl
   exact ⟨by show 3 + _ ≤ _; omega,by omega⟩
 have h5:(tkH x).length ≤ 2:=by unfold tkH; split <;> simp
 have h6:(tkD x.tg).length ≤ 2:=by unfold tkD; split <;> simp
 constructor
 ·show (txT x).size ≤ _
  unfold txT wT
  simp only [ByteArray.size_append]
  show _ + _ + _ + _ + 1 ≤ _
  omega
 ·unfold tkT wT
  simp only [List.length_append,List.length_cons,List.length_nil]
  omega
theorem inT_len (n:Nat):(inT n).length = 2 * n:=by simp [inT]
theorem lineA_w {w:List UInt8} (hw:w.length ≤ 5) {n:Nat} (hn:n ≤ 13) {ts:List Ta} (h:∀ t ∈ ts,t.Ok):(lineA w n ts).length ≤ 34 + 32 * wA ts ∧ (actK w ts).length ≤ 2 + 6 * wA ts:=by
 obtain ⟨h1,h2⟩:=putT_w h
 unfold lineA actK
 by_cases h0:ts = []
 ·rw [if_pos h0,if_pos h0]
  simp
 ·rw [if_neg h0,if_neg h0]
  simp only [List.length_append,List.length_cons,List.length_nil,inT_len]
  omega
theorem insT_w {n:Nat} (hn:n ≤ 13) {t:Ts} (h:t.Ok):(insT n t).length ≤ 68 + 70 * wS t ∧ (insK t).length ≤ 4 + 8 * wS t:=by
 obtain ⟨a1,a2⟩:=lineA_w (w:=[101,110,116,101,114]) (by decide) hn h.en
 obtain ⟨b1,b2⟩:=lineA_w (w:=[101,120,105,116]) (by decide) hn h.ex
 have c1:=flat_le (lineT n) wT 0 70 (L:=t.tr) fun x hx => by
  have:=(txT_w (h.tr x hx)).1
  have h0:1 ≤ wT x:=by unfold wT; omega
  simp only [lineT,List.length_append,List.length_cons,List.length_nil,inT_len]
  omega
 have c2:=flat_le tkT wT 0 8 (L:=t.tr) fun x hx => by
  have:=(txT_w (h.tr x hx)).2
  omega
 unfold insT insK wS
 simp only [List.length_append]
 omega
theorem word_len (k:Int):(wordT k).length ≤ 4:=by
 unfold wordT
 split
 ·simp
 ·split <;> simp
section
variable {sh:List Sh} {l:List Ts}
theorem stT_w (H:Stand sh l) {i:Nat} (hi:i < sh.length):(stT sh l i ++ closT sh l i).length ≤ 424 + 70 * (l[i]?).elim 0 wS ∧ (stK sh l i ++ closK sh l i).length ≤ 19 + 8 * (l[i]?).elim 0 wS:=by
 obtain ⟨t,ht,hok,-,-,-,-⟩:=H.at_ hi
 have hd:=H.deep i hi
 have hn:=name_size hok.nm
 have hw:=word_len t.kind
 have hT:(T t.s).length = t.s.size:=rfl
 obtain ⟨a1,a2⟩:=insT_w (n:=(up sh i).length + 2) (by omega) hok
 have c1:(closT sh l i).length ≤ 26 * (sf sh i).length:=by
  have:=flat_le (oneT sh l i) (fun _ => 0) 26 0 (L:=sf sh i) fun j hj => by
   have hj':=H.deep j (by have:=ShapeSpec.sf_le hj; omega)
   unfold oneT
   split
   ·simp only [List.length_append,List.length_cons,List.length_nil,inT_len]; omega
   ·simp
  unfold closT
  omega
 have c2:(closK sh l i).length ≤ 1 * (sf sh i).length:=by
  have:=flat_le (oneK sh l i) (fun _ => 0) 1 0 (L:=sf sh i) fun j _ => by
   unfold oneK
   split <;> simp
  unfold closK
  omega
 have hsf:(sf sh i).length = (up sh i).length + 1:=rfl
 have s1:(stT sh l i).length ≤ 112 + 70 * wS t ∧ (stK sh l i).length ≤ 7 + 8 * wS t:=by
  unfold stT stK
  rw [ht]
  simp only [Option.elim]
  split
  ·simp only [headT,headK,List.length_append,List.length_cons,List.length_nil,inT_len]
   omega
  ·simp only [headT,headK,List.length_append,List.length_cons,List.length_nil,inT_len]
   omega
 rw [ht]
 simp only [List.length_append,Option.elim]
 omega
theorem sum_at (f:Ts → Nat) (l:List Ts):((List.range l.length).map fun i => (l[i]?).elim 0 f).sum = (l.map f).sum:=by
 congr 1
 apply List.ext_getElem
 ·simp
 ·intro i h1 h2
  simp only [List.length_map,List.length_range] at h1
  simp [h1]
theorem stsT_w (H:Stand sh l):(stsT sh l).length ≤ 424 * l.length + 70 * (l.map wS).sum ∧ (stsK sh l).length ≤ 19 * l.length + 8 * (l.map wS).sum:=by
 have hl:=H.len
 have h1:=flat_le (fun i => stT sh l i ++ closT sh l i) (fun i => (l[i]?).elim 0 wS) 424 70 (L:=List.range l.length) fun i hi => (stT_w H (by rw [hl]; exact List.mem_range.1 hi)).1
 have h2:=flat_le (fun i => stK sh l i ++ closK sh l i) (fun i => (l[i]?).elim 0 wS) 19 8 (L:=List.range l.length) fun i hi => (stT_w H (by rw [hl]; exact List.mem_range.1 hi)).2
 rw [sum_at,List.length_range] at h1 h2
 exact ⟨h1,h2⟩
end
theorem sep_w:∀ {l:List ByteArray},(∀ e ∈ l,isName e.data.toList = true) → (sepT l).length ≤ 14 * l.length ∧ (sepK l).length ≤ 2 * l.length
 | [],_ => by simp [sepT,Lib.join_nil,sepK]
 | [s],h => by
   have:=name_size (h s (by simp))
   have hT:(T s).length = s.size:=rfl
   unfold sepT
   rw [List.map_cons,List.map_nil,Lib.join_one]
   simp only [sepK,List.length_cons,List.length_nil]
   omega
 | s :: u :: r,h => by
   have:=name_size (h s (by simp))
   have hT:(T s).length = s.size:=rfl
   obtain ⟨h1,h2⟩:=sep_w (l:=u :: r) (fun e he => h e (by simp only [List.mem_cons] at he ⊢; exact .inr he))
   unfold sepT at h1 ⊢
   rw [List.map_cons] at h1
   rw [List.map_cons,List.map_cons,join_two]
   simp only [sepK,List.length_append,List.length_cons,List.length_nil] at h1 h2 ⊢
   omega
theorem int_len {n:Int} (h:smallV n = true):(ValSpec.text n).length ≤ 8 ∧ (intK n).length ≤ 2:=by
 have h1:=small_abs h
 have:=ValSpec.digs_len 6 n.natAbs (by omega)
 unfold ValSpec.text intK
 split
 ·simp only [List.length_append,List.length_cons,List.length_nil]; omega
 ·simp only [List.length_append,List.length_cons,List.length_nil]; omega
theorem var_w {v:Vr} (h:okV v = true):(varT v).length ≤ 70 ∧ (varK v).length ≤ 12:=by
 simp only [okV,Bool.and_eq_true] at h
 obtain ⟨h1,h2,h3,h4⟩:=h
 have a:=int_len h2
 have b:=int_len h3
 have c:=int_len h4
 have d:=name_size h1
 have hT:(T v.s).length = v.s.size:=rfl
 unfold varT varK
 simp only [List.length_append,List.length_cons,List.length_nil,inT_len]
 omega
theorem chart_w {x:Tc} (h:x.Ok) (hw:wC x ≤ 160):(putC x).length ≤ 65536 ∧ (chK x).length ≤ 4000:=by
 have H:=h.stand
 have hl:=H.len
 have hf:=H.few
 obtain ⟨s1,s2⟩:=stsT_w H
 have n1:=name_size h.nm
 have hT:(T x.s).length = x.s.size:=rfl
 have e1:(evT x.evs).length ≤ 130 ∧ (evK x.evs).length ≤ 20:=by
  obtain ⟨a,b⟩:=sep_w h.evs
  have:=h.evf
  unfold evT evK
  by_cases h0:x.evs = []
  ·rw [if_pos h0,if_pos h0]; simp
  ·rw [if_neg h0,if_neg h0]
   simp only [List.length_append,List.length_cons,List.length_nil,inT_len]
   omega
 have v1:=flat_le varT (fun _ => 0) 70 0 (L:=x.vars) fun v hv => by have:=(var_w (h.vars v hv)).1; omega
 have v2:=flat_le varK (fun _ => 0) 12 0 (L:=x.vars) fun v hv => by have:=(var_w (h.vars v hv)).2; omega
 have hv:=h.vaf
 unfold wC at hw
 unfold putC chK
 simp only [List.length_append,List.length_cons,List.length_nil,inT_len]
 omega
end PrintSpec
end Go.Proofs.YtcofikjpplkjdaaGreatDoor
namespace Go.Proofs.YtcofikjpplkjdaaGreatDoor
open Go.RowKit ShapeSpec
set_option maxRecDepth 100000
def AtUp (n:Nat) (i:Value) (Q:Int → Prop):Prop:=∃ j:Int,i = .int .i64 j ∧ j < n ∧ Q j
def DepQ (l:List Sh) (d:Nat) (v:Value) (j:Int):Prop:=∃ k:Nat,v = .int .i64 k ∧ ((0 ≤ j ∧ k + (up l j.toNat).length + 1 = d) ∨ (j = -1 ∧ k = d))
theorem depQ_bd {l:List Sh} {d k:Nat} {j:Int} (h:(0 ≤ j ∧ k + (up l j.toNat).length + 1 = d) ∨ (j = -1 ∧ k = d)):k ≤ d:=by omega
theorem depQ_next {l:List Sh} {n d k j:Nat} (hs:SU l n) (hj:j < n) (h:k + (up l j).length + 1 = d):par l j < n ∧ par l j < j ∧ DepQ l d (.int .i64 ((k:Int) + 1)) (par l j):=by
 rcases Nat.eq_zero_or_pos j with h0 | h0
 ·subst h0
  have hr:=hs.root hj
  rw [show up l 0 = [] from rfl] at h
  rw [hr]
  exact ⟨by omega,by omega,k + 1,by simp,.inr ⟨rfl,by simpa using h⟩⟩
 ·obtain ⟨p,hp,hlt,hup,_⟩:=hs.parn hj h0
  rw [hp]
  rw [hup,sf,List.length_cons] at h
  exact ⟨by omega,by omega,k + 1,by simp,.inl ⟨by omega,by simp; omega⟩⟩
set_option maxHeartbeats 1000000 in
theorem shdepth_any (A:Option Addr) (n c:Nat) (l:List Sh) (i:Nat) (w:World) (h:Sts w (.slice A n c) l) (hs:SU l n) (hi:i < n) (hm:n ≤ 1000000) :
 Calls Tryz.prog 90 #[.slice A n c,.int .i64 i] w (SameI w ((up l i).length + 1:Nat)):=by
 have HT:=Lib.hid h
 have HS:=Lib.hid hs
 have hul:=up_length_le l i
 obtain ⟨d,hd⟩:∃ d,d = (up l i).length + 1:=⟨_,rfl⟩
 rw [← hd]
 have hdm:d ≤ 1000001:=by omega
 have HD:=Lib.hid hd
 clear h hs hd hul
 go_enter Tryz.func90,Tryz.ntmps90
 go_wp2_with fail
 go_loop [1,5] (fun i v => AtUp n i (DepQ l d v)) (fun i _ => (intOf i + 1).toNat)
 case atStart => exact ⟨i,rfl,by omega,0,rfl,.inl ⟨by omega,by rw [HD.out]; simp⟩⟩
 case round =>
  obtain ⟨j,rfl,hj,k,rfl,hq⟩:=hrel
  have hk:=depQ_bd hq
  rcases hq with ⟨h0,hq⟩ | ⟨rfl,hq⟩
  ·obtain ⟨j,rfl⟩:=Int.eq_ofNat_of_zero_le h0
   obtain ⟨b,off,rfl,hb,c1,c2⟩:=HT.out.at_ (i:=j) (by omega)
   obtain ⟨hp1,hp2,hp3⟩:=depQ_next (j:=j) HS.out (by omega) hq
   have HP:=Lib.hid hp3
   obtain ⟨p,hp⟩:∃ p,p = par l j:=⟨_,rfl⟩
   rw [← hp] at c2 hp1 hp2 HP
   clear hq hp hp3 c1
   go_wp2_with fail
   go_round
   case rel => exact ⟨p,rfl,hp1,HP.out⟩
   case measure => simp [intOf]; omega
  ·subst hq
   go_wp2_with fail
   go_ret
   exact ⟨rfl,rfl⟩
def HangQ (l:List Sh) (i q:Nat) (v:Value):Prop:=∃ j:Nat,v = .int .i64 j ∧ j < i ∧ (q ∈ sf l (i - 1) ↔ q ∈ sf l j)
theorem hangQ_next {l:List Sh} {n i j q:Nat} (hs:SU l n) (hi:i ≤ n) (hj:j < i) (hq:q < j) (h:q ∈ sf l (i - 1) ↔ q ∈ sf l j):0 ≤ par l j ∧ par l j < j ∧ HangQ l i q (.int .i64 (par l j)):=by
 obtain ⟨p,hp,hlt,hup,_⟩:=hs.parn (show j < n by omega) (by omega)
 rw [hp]
 refine ⟨by omega,by omega,p,rfl,by omega,h.trans ?_⟩
 rw [← hup]
 exact ⟨fun hm => sf_up hm (by omega),up_in⟩
theorem hang_zero {l:List Sh}:hangB l 0 = decide (par l 0 = -1):=rfl
theorem hang_neg {l:List Sh} {i:Nat} (h0:i ≠ 0) (h:par l i < 0):hangB l i = false:=by
 unfold hangB
 rw [if_neg h0,decide_eq_false (show ¬ 0 ≤ par l i by omega)]
 rfl
theorem hang_at {l:List Sh} {i q:Nat} (h0:i ≠ 0) (h:par l i = q) (hm:q ∈ sf l (i - 1)):hangB l i = decide (kind l q ≠ 1):=by
 have:=sf_le hm
 unfold hangB
 rw [if_neg h0,h,decide_eq_true (show (0:Int) ≤ q by omega),decide_eq_true (show (q:Int) < i by omega),show ((q:Nat):Int).toNat = q from rfl,decide_eq_true hm]
 simp
theorem hang_off {l:List Sh} {i q:Nat} (h0:i ≠ 0) (h:par l i = q) (hm:q ∉ sf l (i - 1)):hangB l i = false:=by
 unfold hangB
 rw [if_neg h0,h,show ((q:Nat):Int).toNat = q from rfl,decide_eq_false hm]
 simp
set_option maxHeartbeats 2000000 in
theorem hangs_any (A:Option Addr) (n c:Nat) (l:List Sh) (i:Nat) (w:World) (h:Sts w (.slice A n c) l) (hs:SU l i) (hi:i < n) (hm:n ≤ 1000000) :
 Calls Tryz.prog 125 #[.slice A n c,.int .i64 i] w (SameB w (hangB l i)):=by
 have HT:=Lib.hid h
 have HS:=Lib.hid hs
 obtain ⟨b,off,rfl,hb,c1,c2⟩:=h.at_ hi
 clear h hs c1
 obtain ⟨p,hp⟩:∃ p,p = par l i:=⟨_,rfl⟩
 rw [← hp] at c2
 have HP:=Lib.hid hp
 clear hp
 rcases Nat.eq_zero_or_pos i with h0 | h0
 ·subst h0
  have HH:Hid (hangB l 0 = decide (p = -1)):=Lib.hid (by rw [hang_zero,← HP.out])
  obtain ⟨r,hr⟩:∃ r,r = hangB l 0:=⟨_,rfl⟩
  rw [← hr] at HH ⊢
  clear hr
  have c2':w.cell? ⟨b,off + 2,none⟩ = some (.int .i64 p):=by simpa using c2
  clear c2
  by_cases hpp:p = -1
  ·have g1:(p == -1) = true:=by simpa using hpp
   have HR:Hid (r = true):=Lib.hid (by rw [HH.out]; simpa using hpp)
   clear hpp
   go_enter Tryz.func125,Tryz.ntmps125
   go_wp2_with fail
   go_ret
   exact ⟨ret_bool HR.out.symm,rfl⟩
  ·have g1:(p == -1) = false:=by simpa using hpp
   have HR:Hid (r = false):=Lib.hid (by rw [HH.out]; simpa using hpp)
   clear hpp
   go_enter Tryz.func125,Tryz.ntmps125
   go_wp2_with fail
   go_ret
   exact ⟨ret_bool HR.out.symm,rfl⟩
 ·have h0':i ≠ 0:=by omega
  have g0:((i:Int) == 0) = false:=by simp; omega
  by_cases hneg:p < 0
  ·have HR:Hid (hangB l i = false):=Lib.hid (hang_neg h0' (by rw [← HP.out]; exact hneg))
   clear h0'
   go_enter Tryz.func125,Tryz.ntmps125
   go_wp2_with fail
   go_ret
   exact ⟨ret_bool HR.out.symm,rfl⟩
  ·obtain ⟨q,rfl⟩:=Int.eq_ofNat_of_zero_le (Int.not_lt.1 hneg)
   have HA:Hid (q ∈ sf l (i - 1) → hangB l i = decide (kind l q ≠ 1)):=Lib.hid (hang_at h0' HP.out.symm)
   have HO:Hid (q ∉ sf l (i - 1) → hangB l i = false):=Lib.hid (hang_off h0' HP.out.symm)
   obtain ⟨r,hr⟩:∃ r,r = hangB l i:=⟨_,rfl⟩
   rw [← hr] at HA HO ⊢
   have hi1:1 ≤ (i:Int):=by omega
   clear hneg hr h0' h0
   go_enter Tryz.func125,Tryz.ntmps125
   go_wp2_with fail
   go_loop [6] (fun v => HangQ l i q v) (fun v => (intOf v).toNat)
   case atStart => exact ⟨i - 1,by congr 1; omega,by omega,Iff.rfl⟩
   case round =>
    obtain ⟨j,rfl,hj,hiff⟩:=hrel
    have HI:=Lib.hid hiff
    clear hiff
    rcases Nat.lt_trichotomy j q with hlt | heq | hgt
    ·have HR:Hid (r = false):=Lib.hid (HO.out (fun hm => by have:=sf_le (HI.out.1 hm); omega))
     have g1:((j:Int) == (q:Int)) = false:=by simp; omega
     have g2:(j == q) = false:=by simp; omega
     have g3:decide (q < j) = false:=decide_eq_false (by omega)
     go_wp2_with fail
     go_ret
     exact ⟨ret_bool HR.out.symm,rfl⟩
    ·subst heq
     obtain ⟨_,_,heq,_,c1,_⟩:=HT.out.at_ (i:=j) (by omega)
     cases heq
     have HR:Hid (r = decide (kind l j ≠ 1)):=Lib.hid (HA.out (HI.out.2 (sf_self _ _)))
     obtain ⟨kd,hkd⟩:∃ kd,kd = kind l j:=⟨_,rfl⟩
     rw [← hkd] at HR c1
     have hji:(j:Int) < n:=by omega
     have hjn:j < n:=by omega
     clear hkd
     by_cases hk1:kd = 1
     ·have g1:(kd != 1) = false:=by simpa using hk1
      have HR2:Hid (r = false):=Lib.hid (by rw [HR.out]; simpa using hk1)
      clear hk1
      go_wp2_with fail
      go_ret
      exact ⟨ret_bool HR2.out.symm,rfl⟩
     ·have g1:(kd != 1) = true:=by simpa using hk1
      have HR2:Hid (r = true):=Lib.hid (by rw [HR.out]; simpa using hk1)
      clear hk1
      go_wp2_with fail
      go_ret
      exact ⟨ret_bool HR2.out.symm,rfl⟩
    ·obtain ⟨_,_,heq,_,_,c2'⟩:=HT.out.at_ (i:=j) (by omega)
     cases heq
     obtain ⟨hp1,hp2,hp3⟩:=hangQ_next HS.out (Nat.le_refl _) hj hgt HI.out
     have HN:=Lib.hid hp3
     obtain ⟨p',hp'⟩:∃ p',p' = par l j:=⟨_,rfl⟩
     rw [← hp'] at c2' hp1 hp2 HN
     have hjn:j < n:=by omega
     clear hp' hp3
     go_wp2_with fail
     go_round
     case rel => exact HN.out
     case measure => simp [intOf]; omega
theorem good_kind {l:List Sh} {i:Nat} (h:kind l i < 1 ∨ 3 < kind l i):goodB l i = false:=by
 unfold goodB
 rcases h with h | h
 ·rw [decide_eq_false (show ¬ 1 ≤ kind l i by omega)]
  rfl
 ·rw [decide_eq_false (show ¬ kind l i ≤ 3 by omega)]
  simp
theorem good_hang {l:List Sh} {i:Nat} (h1:1 ≤ kind l i) (h2:kind l i ≤ 3):goodB l i = hangB l i:=by
 unfold goodB
 rw [decide_eq_true h1,decide_eq_true h2]
 rfl
def StandRel (W:World) (l:List Sh) (n:Nat) (v:Value) (wr:World):Prop:=∃ k:Nat,k ≤ n ∧ v = .int .i64 k ∧ SU l k ∧ Below W.heap.size W wr
set_option maxHeartbeats 4000000 in
theorem stand_any (A:Option Addr) (n c:Nat) (l:List Sh) (w:World) (h:Sts w (.slice A n c) l) (hm:n ≤ 1000000) :
 Calls Tryz.prog 89 #[.slice A n c] w (RetB w (standB l)):=by
 have HT:=Lib.hid h
 have HN:=Lib.hid h.len
 have HF:=Lib.hid (fun i (hi:i < l.length) (hg:goodB l i = false) => stand_not hi hg)
 have HO:=Lib.hid (fun (h0:0 < l.length) (hs:SU l l.length) => stand_of h0 hs)
 have HZ:Hid (l.length = 0 → standB l = false):=Lib.hid (fun e => by cases l with | nil => rfl | cons => simp at e)
 obtain ⟨r,hr⟩:∃ r,r = standB l:=⟨_,rfl⟩
 rw [← hr] at HF HO HZ ⊢
 clear h hr
 go_enter Tryz.func89,Tryz.ntmps89
 go_wp2_with fail
 go_loopw [7] (fun v wr => StandRel w l n v wr) (fun v _ => n - (intOf v).toNat)
 case atStart => exact ⟨0,Nat.zero_le _,rfl,SU.zero l,Below.refl _ _⟩
 case round =>
  obtain ⟨k,hk,rfl,hsu,hbw⟩:=hrel
  have HSU:=Lib.hid hsu
  have HBW:=Lib.hid hbw
  clear hsu hbw
  by_cases hlt:k < n
  ·have hltI:(k:Int) < n:=by omega
   have HT1:=Lib.hid (HT.out.keep HBW.out)
   obtain ⟨t,ht⟩:∃ t,l[k]? = some t:=get_some (by rw [← HN.out]; exact hlt)
   obtain ⟨b,off,s,a3,n3,c3,a4,n4,c4,a5,n5,c5,rfl,hb,c0,c1,c2,c3',c4',c5'⟩:=HT1.out.all ht
   have hkd:=kind_at ht
   obtain ⟨kd,hkd'⟩:∃ kd,kd = t.kind:=⟨_,rfl⟩
   rw [← hkd'] at hkd c1
   have HK:=Lib.hid hkd
   have HB1:Hid (∀ o:Obj,Below w.heap.size w (wr.alloc o)):=Lib.hid (fun o => HBW.out.alloc HBW.out.size o)
   have HHG:=Lib.hid (fun w1 h => hangs_any (some ⟨b,off,none⟩) n c l k w1 h HSU.out hlt hm)
   obtain ⟨q,hq⟩:∃ q,q = t.par:=⟨_,rfl⟩
   rw [← hq] at c2
   clear ht hkd hkd' hq
   rcases Int.lt_trichotomy kd 1 with h1 | h1 | h1
   ·have HR:Hid (r = false):=Lib.hid (HF.out k (by rw [← HN.out]; exact hlt) (good_kind (.inl (by rw [HK.out]; exact h1))))
    have g1:decide (kd < 1) = true:=decide_eq_true h1
    go_wp2_with fail
    go_ret
    exact ⟨ret_bool HR.out.symm,HB1.out _⟩
   all_goals
    by_cases h3:3 < kd
    ·first
      | (exfalso; omega)
      | (have HR:Hid (r = false):=Lib.hid (HF.out k (by rw [← HN.out]; exact hlt) (good_kind (.inr (by rw [HK.out]; exact h3))))
         have g1:decide (kd < 1) = false:=decide_eq_false (by omega)
         have g3:decide (3 < kd) = true:=decide_eq_true h3
         go_wp2_with fail
         go_ret
         exact ⟨ret_bool HR.out.symm,HB1.out _⟩)
    ·have HG:Hid (goodB l k = hangB l k):=Lib.hid (good_hang (by rw [HK.out]; omega) (by rw [HK.out]; omega))
     obtain ⟨g,hg⟩:∃ g,g = hangB l k:=⟨_,rfl⟩
     rw [← hg] at HG HHG
     have g1:decide (kd < 1) = false:=decide_eq_false (by omega)
     have g3:decide (3 < kd) = false:=decide_eq_false h3
     clear hg h1 h3
     have HTA:Hid (∀ o:Obj,Sts (wr.alloc o) (.slice (some ⟨b,off,none⟩) n c) l):=Lib.hid (fun o => HT1.out.alloc o)
     cases g with
     | true =>
       go_wp2_with (go_at_call 125; (with_reducible refine (HHG.out _ (HTA.out _)).mono ?_); rintro e w' ⟨rfl,rfl⟩)
       go_roundw
       case rel => exact ⟨k + 1,by omega,by simp,HSU.out.next HG.out,HB1.out _⟩
       case measure => simp [intOf]; omega
     | false =>
       have HR:Hid (r = false):=Lib.hid (HF.out k (by rw [← HN.out]; exact hlt) HG.out)
       go_wp2_with (go_at_call 125; (with_reducible refine (HHG.out _ (HTA.out _)).mono ?_); rintro e w' ⟨rfl,rfl⟩)
       go_ret
       exact ⟨ret_bool HR.out.symm,HB1.out _⟩
  ·obtain rfl:k = n:=by omega
   rcases Nat.eq_zero_or_pos k with h0 | h0
   ·subst h0
    have HR:Hid (r = false):=Lib.hid (HZ.out HN.out.symm)
    go_wp2_with fail
    go_ret
    exact ⟨ret_bool HR.out.symm,HBW.out⟩
   ·have HR:Hid (r = true):=Lib.hid (HO.out (by rw [← HN.out]; exact h0) (by rw [← HN.out]; exact HSU.out))
    have hkI:0 < (k:Int):=by omega
    go_wp2_with fail
    go_ret
    exact ⟨ret_bool HR.out.symm,HBW.out⟩
theorem deep_not {l:List Sh} {i:Nat} (hi:i < l.length) (h:11 < (up l i).length):deepB l = true:=by
 simp only [deepB,List.any_eq_true,List.mem_range,decide_eq_true_eq]
 exact ⟨i,hi,h⟩
theorem deep_of {l:List Sh} (h:∀ i,i < l.length → ¬ 11 < (up l i).length):deepB l = false:=by
 simp only [deepB,List.any_eq_false,List.mem_range,decide_eq_true_eq]
 exact h
theorem shchk_full {l:List Sh} (h:60 < l.length):chk l = 8:=if_pos h
theorem chk_arg {l:List Sh} (h:¬ 60 < l.length) (hs:standB l = false):chk l = 1:=by unfold chk; rw [if_neg h,if_pos hs]
theorem chk_deep {l:List Sh} (h:¬ 60 < l.length) (hs:standB l = true):chk l = if deepB l = true then 6 else 0:=by unfold chk; rw [if_neg h,if_neg (by simp [hs])]
def DeepQ (l:List Sh) (n:Nat) (v:Value):Prop:=∃ k:Nat,k ≤ n ∧ v = .int .i64 k ∧ ∀ i,i < k → ¬ 11 < (up l i).length
set_option maxHeartbeats 2000000 in
theorem shpcheck_any (A:Option Addr) (n c:Nat) (l:List Sh) (w:World) (h:Sts w (.slice A n c) l) (hm:n ≤ 9223372036854775807) :
 Calls Tryz.prog 54 #[.slice A n c] w (RetI w (chk l)):=by
 have hn:=h.len
 by_cases h60:60 < n
 ·have HR:Hid (chk l = 8):=Lib.hid (shchk_full (by omega))
  have h60':(60:Int) < n:=by omega
  clear h hn
  go_enter Tryz.func54,Tryz.ntmps54
  go_wp2_with fail
  go_ret
  exact ⟨ret_int HR.out.symm,Below.refl _ _⟩
 ·have h60':¬ (60:Int) < n:=by omega
  have HST:=Lib.hid (stand_any A n c l w h (by omega))
  have HA:Hid (standB l = false → chk l = 1):=Lib.hid (chk_arg (by omega))
  have HD:Hid (standB l = true → chk l = if deepB l = true then 6 else 0):=Lib.hid (chk_deep (by omega))
  cases hs:standB l with
  | false =>
    rw [hs] at HST
    have HR:Hid (chk l = 1):=Lib.hid (HA.out hs)
    clear h hn HA HD hs
    go_enter Tryz.func54,Tryz.ntmps54
    go_wp2_with (go_at_call 89; (with_reducible refine HST.out.mono ?_))
    rintro e w1 ⟨rfl,hb⟩
    go_wp2_with fail
    go_ret
    exact ⟨ret_int HR.out.symm,hb⟩
  | true =>
    rw [hs] at HST
    have HSU:Hid (SU l n):=Lib.hid (by rw [hn]; exact (stand_su hs).2)
    have HR:Hid (chk l = if deepB l = true then 6 else 0):=Lib.hid (HD.out hs)
    have HT:=Lib.hid h
    have HN:=Lib.hid hn
    clear h hn HA HD hs
    go_enter Tryz.func54,Tryz.ntmps54
    go_wp2_with (go_at_call 89; (with_reducible refine HST.out.mono ?_))
    rintro e w1 ⟨rfl,hb⟩
    have HT1:=Lib.hid (HT.out.keep hb)
    have HB:=Lib.hid hb
    clear hb
    go_wp2_with fail
    go_loop [12] (fun v => DeepQ l n v) (fun v => n - (intOf v).toNat)
    case atStart => exact ⟨0,Nat.zero_le _,rfl,fun i hi => absurd hi (by omega)⟩
    case round =>
     obtain ⟨k,hk,rfl,hq⟩:=hrel
     have HQ:=Lib.hid hq
     clear hq
     by_cases hlt:k < n
     ·have HDP:=Lib.hid (shdepth_any A n c l k w1 HT1.out HSU.out hlt (by omega))
      have hul:=up_length_le l k
      obtain ⟨u,hu⟩:∃ u,u = (up l k).length:=⟨_,rfl⟩
      rw [← hu] at HDP hul
      have HU:=Lib.hid hu
      have hltI:(k:Int) < n:=by omega
      clear hu
      by_cases hd:11 < u
      ·have HX:Hid (chk l = 6):=Lib.hid (by rw [HR.out,if_pos (deep_not (by rw [← HN.out]; exact hlt) (by rw [← HU.out]; exact hd))])
       have hd1:(12:Int) < ((u + 1:Nat):Int):=by omega
       have hd2:12 < u + 1:=by omega
       go_wp2_with (go_at_call 90; (with_reducible refine HDP.out.mono ?_); rintro e w' ⟨rfl,rfl⟩)
       go_ret
       exact ⟨ret_int HX.out.symm,HB.out⟩
      ·have hd1:¬ (12:Int) < ((u + 1:Nat):Int):=by omega
       have hd2:¬ 12 < u + 1:=by omega
       go_wp2_with (go_at_call 90; (with_reducible refine HDP.out.mono ?_); rintro e w' ⟨rfl,rfl⟩)
       go_round
       case rel => exact ⟨k + 1,by omega,by simp,fun i hi => by
        by_cases e:i = k
        ·rw [e,← HU.out]; exact hd
        ·exact HQ.out i (by omega)⟩
       case measure => simp [intOf]; omega
     ·obtain rfl:k = n:=by omega
      have HX:Hid (chk l = 0):=Lib.hid (by rw [HR.out,if_neg (by rw [deep_of (fun i hi => HQ.out i (by rw [HN.out]; exact hi))]; simp)])
      go_wp2_with fail
      go_ret
      exact ⟨ret_int HX.out.symm,HB.out⟩
def hasB (l:List Sh) (i:Int):Bool:=decide (0 ≤ i) && decide (i < l.length) && (chk l == 0)
theorem has_yes {l:List Sh} {i:Int} (h:hasB l i = true):∃ k:Nat,i = k ∧ k < l.length ∧ chk l = 0:=by
 simp [hasB] at h
 obtain ⟨⟨h1,h2⟩,h3⟩:=h
 exact ⟨i.toNat,by omega,by omega,h3⟩
set_option maxHeartbeats 1000000 in
theorem has_any (A:Option Addr) (n c:Nat) (l:List Sh) (i:Int) (w:World) (h:Sts w (.slice A n c) l) (hm:n ≤ 9223372036854775807) :
 Calls Tryz.prog 113 #[.slice A n c,.int .i64 i] w (RetB w (hasB l i)):=by
 have hn:=h.len
 have HC:=Lib.hid (shpcheck_any A n c l w h hm)
 obtain ⟨ch,hch⟩:∃ ch,ch = chk l:=⟨_,rfl⟩
 rw [← hch] at HC
 have HH:Hid (hasB l i = (decide (0 ≤ i) && decide (i < n) && (ch == 0))):=Lib.hid (by rw [hn,hch]; rfl)
 obtain ⟨r,hr⟩:∃ r,r = hasB l i:=⟨_,rfl⟩
 rw [← hr] at HH ⊢
 clear h hn hch hr
 by_cases h0:0 ≤ i
 ·have g0:decide (0 ≤ i) = true:=decide_eq_true h0
  by_cases h1:i < n
  ·have g1:decide (i < n) = true:=decide_eq_true h1
   have HR:Hid (r = (ch == 0)):=Lib.hid (by rw [HH.out,g0,g1]; rfl)
   by_cases hc:ch = 0
   ·have gc:(ch == 0) = true:=by simpa using hc
    have HR2:Hid (r = true):=Lib.hid (HR.out.trans gc)
    clear hc
    go_enter Tryz.func113,Tryz.ntmps113
    go_wp2_with (go_at_call 54; (with_reducible refine HC.out.mono ?_))
    rintro e w1 ⟨rfl,hb⟩
    go_wp2_with fail
    go_ret
    exact ⟨ret_bool HR2.out.symm,hb⟩
   ·have gc:(ch == 0) = false:=by simpa using hc
    have HR2:Hid (r = false):=Lib.hid (HR.out.trans gc)
    clear hc
    go_enter Tryz.func113,Tryz.ntmps113
    go_wp2_with (go_at_call 54; (with_reducible refine HC.out.mono ?_))
    rintro e w1 ⟨rfl,hb⟩
    go_wp2_with fail
    go_ret
    exact ⟨ret_bool HR2.out.symm,hb⟩
  ·have g1:decide (i < n) = false:=decide_eq_false h1
   have HR:Hid (r = false):=Lib.hid (by rw [HH.out,g0,g1]; rfl)
   go_enter Tryz.func113,Tryz.ntmps113
   go_wp2_with fail
   go_ret
   exact ⟨ret_bool HR.out.symm,Below.refl _ _⟩
 ·have g0:decide (0 ≤ i) = false:=decide_eq_false h0
  have HR:Hid (r = false):=Lib.hid (by rw [HH.out,g0]; rfl)
  go_enter Tryz.func113,Tryz.ntmps113
  go_wp2_with fail
  go_ret
  exact ⟨ret_bool HR.out.symm,Below.refl _ _⟩
end Go.Proofs.YtcofikjpplkjdaaGreatDoor
namespace Go.Proofs.YtcofikjpplkjdaaGreatDoor
open Go.RowKit ShapeSpec
set_option maxRecDepth 100000
def kidsA (l:List Sh) (i:Int):List Int:=if hasB l i = true then kids l i.toNat else []
theorem has_at {l:List Sh} {n:Nat} {i:Int} (hn:n = l.length) (h:hasB l i = true):∃ k:Nat,i = k ∧ i.toNat = k ∧ k < n ∧ n ≤ 60 ∧ SU l n:=by
 obtain ⟨k,rfl,hk,hc⟩:=has_yes h
 subst hn
 exact ⟨k,rfl,rfl,hk,(chk_ok hc).1,chk_su hc⟩
end Go.Proofs.YtcofikjpplkjdaaGreatDoor
namespace Go.Proofs.YtcofikjpplkjdaaGreatDoor
open Go.RowKit ShapeSpec
set_option maxRecDepth 100000
def RAbQ (W:World) (l:List Sh) (i m:Nat) (p v:Value) (wr:World):Prop:=∃ (j:Nat) (xs:List Int),v = .int .i64 j ∧ j < m ∧ RowI W wr p xs ∧ xs.length ≤ i ∧ xs ++ upI l j = upI l i
theorem rab_next {l:List Sh} {m i j:Nat} {xs:List Int} (hs:SU l m) (hj:j < m) (h:xs ++ upI l j = upI l i):(par l j = -1 ∧ xs = upI l i) ∨ ∃ p:Nat,par l j = p ∧ p < m ∧ p < j ∧ (xs ++ [(p:Int)]).length ≤ i ∧ (xs ++ [(p:Int)]) ++ upI l p = upI l i:=by
 rcases Nat.eq_zero_or_pos j with h0 | h0
 ·subst h0
  refine .inl ⟨hs.root hj,?_⟩
  rw [← h]
  exact (List.append_nil xs).symm
 ·obtain ⟨p,hp,hlt,hup,_⟩:=hs.parn hj h0
  have e:(xs ++ [(p:Int)]) ++ upI l p = upI l i:=by
   rw [← h]
   unfold upI
   rw [hup,List.append_assoc]
   rfl
  refine .inr ⟨p,hp,by omega,hlt,?_,e⟩
  have h1:=congrArg List.length e
  have h2:=up_length_le l i
  rw [upI_length,List.length_append,upI_length] at h1
  omega
set_option maxHeartbeats 4000000 in
theorem rabove_any (A:Option Addr) (n c m:Nat) (l:List Sh) (a:Nat) (w:World) (h:Sts w (.slice A n c) l) (hs:SU l m) (ha:a < m) (hmn:m ≤ n) (hm:n ≤ 1000000) :
 Calls Tryz.prog 34 #[.slice A n c,.int .i64 a] w (RetInts w (upI l a)):=by
 have HT:=Lib.hid h
 have HS:=Lib.hid hs
 obtain ⟨i0,hi,hz0,hz1,hz2⟩:=info_parts inf_int
 have HI:=Lib.hid (And.intro hi (And.intro hz0 (And.intro hz1 hz2)))
 clear h hs hi hz0 hz1 hz2
 go_enter Tryz.func34,Tryz.ntmps34
 go_wp2_with fail
 go_loopw [1,5] (fun v p wr => RAbQ w l a m p v wr) (fun v _ _ => (intOf v).toNat)
 case atStart => exact ⟨a,[],rfl,ha,⟨World.ownsRow_lit w #[] 0 (Nat.le_refl _) (Nat.zero_le _) rfl,(Below.refl _ _).alloc (Nat.le_refl _) _⟩,Nat.zero_le _,rfl⟩
 case round =>
  obtain ⟨j,xs,rfl,hj,hrow,hxl,hq⟩:=hrel
  have HR:=Lib.hid hrow
  have HT1:=Lib.hid (HT.out.keep HR.out.2)
  obtain ⟨b,off,rfl,hb,-,c2⟩:=HT1.out.at_ (i:=j) (by omega)
  have hjn:(j:Int) < n:=by omega
  rcases rab_next HS.out hj hq with ⟨hp,hx⟩ | ⟨p,hp,hpm,hpj,hle,hx⟩
  ·rw [hp] at c2
   have HR3:Hid (RetInts w (upI l a) _ wr):=Lib.hid (by rw [← hx]; exact HR.out.ret)
   clear hq hrow hp hx
   go_wp2_with fail
   go_ret
   exact HR3.out
  ·rw [hp] at c2
   have HX:=Lib.hid hx
   have HLE:=Lib.hid hle
   have hxl':xs.length < a + 1:=by omega
   have HSZ:Hid (w.heap.size ≤ wr.heap.size):=Lib.hid HR.out.2.size
   have HL1:Hid (xs.length + (intV [(p:Int)]).length ≤ maxLen):=Lib.hid (by simp [maxLen]; omega)
   have HL2:Hid ((xs.length + (intV [(p:Int)]).length) * 8 ≤ 140737488355328):=Lib.hid (by simp; omega)
   clear hq hrow hp hx hle
   go_wp2_with (at_builtin; refine wpList_append_rd _ rfl (.tmp 18) (.tmp 20) _ rfl w.heap.size 3 i0 (.int .i64 0) 8 Tryz.underlying72 HI.out.1 HI.out.2.1 HI.out.2.2.1 HI.out.2.2.2 rfl _ _ _ rfl (HR.out.1.alloc _) _ (intV [(p:Int)]) rfl (lit_here rfl rfl rfl) (intV_one _) HL1.out HL2.out ?_ ?_; (have:=HSZ.out; simp; omega); intro p2 w2 hrow2 hg2 _; have HR2:=Lib.hid (RowI.add HR.out hrow2 hg2); clear hrow2 hg2)
   go_roundw
   case rel => exact ⟨p,_,rfl,hpm,HR2.out,HLE.out,HX.out⟩
   case measure => simp [intOf]; omega
def InQ (xs:List Int) (x:Int) (n:Nat) (v:Value):Prop:=∃ k:Nat,v = .int .i64 k ∧ k ≤ n ∧ x ∉ xs.take k
theorem in_next {xs:List Int} {x y:Int} {k:Nat} (h:xs[k]? = some y) (hne:y ≠ x) (hno:x ∉ xs.take k):x ∉ xs.take (k + 1):=by
 rw [take_next h,List.mem_append,List.mem_singleton]
 rintro (h1 | h1)
 ·exact hno h1
 ·exact hne h1.symm
theorem in_hit {xs:List Int} {x:Int} {k:Nat} (h:xs[k]? = some x):decide (x ∈ xs) = true:=decide_eq_true (List.mem_of_getElem? h)
theorem in_miss {xs:List Int} {x:Int} {n:Nat} (hn:xs.length ≤ n) (hno:x ∉ xs.take n):decide (x ∈ xs) = false:=by
 rw [List.take_of_length_le hn] at hno
 exact decide_eq_false hno
set_option maxHeartbeats 1000000 in
theorem rin_any (v:Value) (xs:List Int) (x:Int) (w:World) (h:Rd w v (intV xs)) (hm:xs.length ≤ 9223372036854775807) :
 Calls Tryz.prog 67 #[v,.int .i64 x] w (SameB w (decide (x ∈ xs))):=by
 obtain ⟨A,n,c,rfl,hn,hc,hA⟩:=h.ints
 have HA:=Lib.hid hA
 have HN:=Lib.hid hn
 have hm':n ≤ 9223372036854775807:=by omega
 have HY:Hid (∀ k:Nat,xs[k]? = some x → decide (x ∈ xs) = true):=Lib.hid (fun k h => in_hit h)
 have HM:Hid (x ∉ xs.take n → decide (x ∈ xs) = false):=Lib.hid (in_miss (by omega))
 obtain ⟨r,hr⟩:∃ r,r = decide (x ∈ xs):=⟨_,rfl⟩
 rw [← hr] at HY HM ⊢
 clear hA hn h hc hm hr
 go_enter Tryz.func67,Tryz.ntmps67
 go_wp2_with fail
 go_loop [5] (fun v => InQ xs x n v) (fun v => n - (intOf v).toNat)
 case atStart => exact ⟨0,rfl,Nat.zero_le _,by simp⟩
 case round =>
  obtain ⟨k,rfl,hk,hno⟩:=hrel
  have HO:=Lib.hid hno
  clear hno
  by_cases hlt:k < n
  ·obtain ⟨b,off,rfl,hb,hcell⟩:=HA.out (by omega)
   obtain ⟨y,hy⟩:∃ y,xs[k]? = some y:=get_some (by have:=HN.out; omega)
   have hck:=hcell k y hy
   have HX:=Lib.hid hy
   have hltI:(k:Int) < n:=by omega
   clear hcell hy
   by_cases hyx:y = x
   ·have g1:(y == x) = true:=by simpa using hyx
    have HR:Hid (r = true):=Lib.hid (HY.out k (by rw [HX.out,hyx]))
    clear hyx
    go_wp2_with fail
    go_ret
    exact ⟨ret_bool HR.out.symm,rfl⟩
   ·have g1:(y == x) = false:=by simpa using hyx
    have HR:=Lib.hid (in_next HX.out hyx HO.out)
    clear hyx
    go_wp2_with fail
    go_round
    case rel => exact ⟨k + 1,by simp,by omega,HR.out⟩
    case measure => simp [intOf]; omega
  ·obtain rfl:k = n:=by omega
   have HR:Hid (r = false):=Lib.hid (HM.out HO.out)
   go_wp2_with fail
   go_ret
   exact ⟨ret_bool HR.out.symm,rfl⟩
set_option maxHeartbeats 2000000 in
theorem rself_any (A:Option Addr) (n c m:Nat) (l:List Sh) (a:Nat) (w:World) (h:Sts w (.slice A n c) l) (hs:SU l m) (ha:a < m) (hmn:m ≤ n) (hm:n ≤ 1000000) :
 Calls Tryz.prog 30 #[.slice A n c,.int .i64 a] w (RetInts w (sfI l a)):=by
 have HT:Hid (∀ o:Obj,Sts (w.alloc o) (.slice A n c) l):=Lib.hid (fun o => h.alloc o)
 have HAb:=Lib.hid (fun w h => rabove_any A n c m l a w h hs ha hmn hm)
 have hul:=up_length_le l a
 have HE:Hid (sfI l a = [(a:Int)] ++ upI l a):=Lib.hid (sfI_cons l a)
 rw [HE.out]
 have hull:(upI l a).length ≤ a:=by rw [upI_length]; exact hul
 obtain ⟨us,hus⟩:∃ us,us = upI l a:=⟨_,rfl⟩
 rw [← hus] at HAb hull ⊢
 have HL1:Hid ([(a:Int)].length + (intV us).length ≤ maxLen):=Lib.hid (by simp [maxLen]; omega)
 have HL2:Hid (([(a:Int)].length + (intV us).length) * 8 ≤ 140737488355328):=Lib.hid (by simp; omega)
 have HR0:Hid (RowI w (w.alloc (.cells #[.int .i64 a] 3)) (.slice (some ⟨w.heap.size,0,none⟩) 1 1) [(a:Int)]):=Lib.hid ⟨World.ownsRow_lit w #[.int .i64 a] 1 (Nat.le_refl _) (by decide) rfl,(Below.refl _ _).alloc (Nat.le_refl _) _⟩
 obtain ⟨i0,hi,hz0,hz1,hz2⟩:=info_parts inf_int
 have HI:=Lib.hid (And.intro hi (And.intro hz0 (And.intro hz1 hz2)))
 clear h hs hul HE hus hi hz0 hz1 hz2
 go_enter Tryz.func30,Tryz.ntmps30
 go_wp2_with (go_at_call 34; (with_reducible refine (HAb.out _ (HT.out _)).mono ?_))
 rintro e w1 ⟨v,rfl,hrd,hb⟩
 have HR1:=Lib.hid (HR0.out.keep hb)
 have HRD:=Lib.hid hrd
 have HSZ:Hid (w.heap.size ≤ w1.heap.size):=Lib.hid HR1.out.2.size
 clear hrd hb
 go_wp2_with (at_builtin; refine wpList_append_rd _ rfl (.tmp 6) (.tmp 9) _ rfl w.heap.size 3 i0 (.int .i64 0) 8 Tryz.underlying72 HI.out.1 HI.out.2.1 HI.out.2.2.1 HI.out.2.2.2 rfl _ _ _ rfl HR1.out.1 _ (intV us) rfl HRD.out (intV_one _) HL1.out HL2.out HSZ.out ?_; intro p2 w2 hrow2 hg2 _; have HR2:=Lib.hid (RowI.addB HR1.out hrow2 hg2); clear hrow2 hg2)
 go_ret
 exact HR2.out.ret
end Go.Proofs.YtcofikjpplkjdaaGreatDoor
namespace Go.Proofs.YtcofikjpplkjdaaGreatDoor
open Go.RowKit ShapeSpec
set_option maxRecDepth 100000
def RKidRel (W:World) (l:List Sh) (i n:Nat) (p v:Value) (wr:World):Prop:=∃ k:Nat,k ≤ n ∧ v = .int .i64 k ∧ RowI W wr p (kidsTo l i k)
set_option maxHeartbeats 4000000 in
theorem rshkids_any (A:Option Addr) (n c:Nat) (l:List Sh) (a:Nat) (w:World) (h:Sts w (.slice A n c) l) (hm:n ≤ 1000000) :
 Calls Tryz.prog 68 #[.slice A n c,.int .i64 a] w (RetInts w (kids l a)):=by
 have hn:=h.len
 have HE:Hid (kids l a = kidsTo l a n):=Lib.hid (by rw [hn]; rfl)
 rw [HE.out]
 have HT:=Lib.hid h
 obtain ⟨i0,hi,hz0,hz1,hz2⟩:=info_parts inf_int
 have HI:=Lib.hid (And.intro hi (And.intro hz0 (And.intro hz1 hz2)))
 clear h hn HE hi hz0 hz1 hz2
 go_enter Tryz.func68,Tryz.ntmps68
 go_wp2_with fail
 go_loopw [5,6] (fun p v wr => RKidRel w l a n p v wr) (fun _ v _ => n - (intOf v).toNat)
 case atStart => exact ⟨0,Nat.zero_le _,rfl,⟨World.ownsRow_lit w #[] 0 (Nat.le_refl _) (Nat.zero_le _) rfl,(Below.refl _ _).alloc (Nat.le_refl _) _⟩⟩
 case round =>
  obtain ⟨k,hk,rfl,hrow⟩:=hrel
  have HR:=Lib.hid hrow
  by_cases hlt:k < n
  ·have hltI:(k:Int) < n:=by omega
   obtain ⟨b,off,rfl,hb,-,c2⟩:=(HT.out.keep HR.out.2).at_ hlt
   obtain ⟨q,hq⟩:∃ q,q = par l k:=⟨_,rfl⟩
   rw [← hq] at c2
   have HP:=Lib.hid hq
   have HSZ:Hid (w.heap.size ≤ wr.heap.size):=Lib.hid HR.out.2.size
   have hkl:=kids_le l a k
   have HL1:Hid ((kidsTo l a k).length + (intV [(k:Int)]).length ≤ maxLen):=Lib.hid (by simp [maxLen]; omega)
   have HL2:Hid (((kidsTo l a k).length + (intV [(k:Int)]).length) * 8 ≤ 140737488355328):=Lib.hid (by simp; omega)
   clear hq hkl hrow
   by_cases hqa:q = a
   ·have g1:(q == (a:Int)) = true:=by simpa using hqa
    have HS:Hid (kidsTo l a (k + 1) = kidsTo l a k ++ [(k:Int)]):=Lib.hid (kids_yes (HP.out.symm.trans hqa))
    clear hqa
    go_wp2_with (at_builtin; refine wpList_append_rd _ rfl (.tmp 21) (.tmp 23) _ rfl w.heap.size 3 i0 (.int .i64 0) 8 Tryz.underlying72 HI.out.1 HI.out.2.1 HI.out.2.2.1 HI.out.2.2.2 rfl _ _ _ rfl (HR.out.1.alloc _) _ (intV [(k:Int)]) rfl (lit_here rfl rfl rfl) (intV_one _) HL1.out HL2.out ?_ ?_; (have:=HSZ.out; simp; omega); intro p2 w2 hrow2 hg2 _; have HR2:=Lib.hid (RowI.add HR.out hrow2 hg2); clear hrow2 hg2)
    go_roundw
    case rel => exact ⟨k + 1,by omega,by simp,by rw [HS.out]; exact HR2.out⟩
    case measure => simp [intOf]; omega
   ·have g1:(q == (a:Int)) = false:=by simpa using hqa
    have HS:Hid (kidsTo l a (k + 1) = kidsTo l a k):=Lib.hid (kids_no (by rw [← HP.out]; exact hqa))
    clear hqa
    go_wp2_with fail
    go_roundw
    case rel => exact ⟨k + 1,by omega,by simp,by rw [HS.out]; exact HR.out⟩
    case measure => simp [intOf]; omega
  ·obtain rfl:k = n:=by omega
   go_wp2_with fail
   go_ret
   exact HR.out.ret
def REndQ (W:World) (l:List Sh) (a n:Nat) (v i:Value) (wr:World):Prop:=∃ k:Nat,k ≤ n ∧ i = .int .i64 k ∧ v = .int .i64 (endTo l a k:Nat) ∧ Below W.heap.size W wr
set_option maxHeartbeats 4000000 in
theorem rshend_any (A:Option Addr) (n c:Nat) (l:List Sh) (a:Nat) (w:World) (h:Sts w (.slice A n c) l) (hs:SU l n) (ha:a < n) (hm:n ≤ 1000000) :
 Calls Tryz.prog 31 #[.slice A n c,.int .i64 a] w (RetI w (endOf l a:Nat)):=by
 have HE:Hid (endOf l a = endTo l a n):=Lib.hid (by rw [h.len]; rfl)
 rw [HE.out]
 have HT:=Lib.hid h
 have HAb:=Lib.hid (fun w' k h hk => rabove_any A n c n l k w' h hs hk (Nat.le_refl _) hm)
 have HULL:Hid (∀ a:Nat,(upI l a).length ≤ a):=Lib.hid (fun a => by rw [upI_length]; exact up_length_le l a)
 clear h hs HE
 go_enter Tryz.func31,Tryz.ntmps31
 go_wp2_with fail
 go_loopw [5,6] (fun v i wr => REndQ w l a n v i wr) (fun _ i _ => n - (intOf i).toNat)
 case atStart => exact ⟨0,Nat.zero_le _,rfl,rfl,Below.refl _ _⟩
 case round =>
  obtain ⟨k,hk,rfl,rfl,hbw⟩:=hrel
  have HBW:=Lib.hid hbw
  clear hbw
  by_cases hlt:k < n
  ·have hltI:(k:Int) < n:=by omega
   have HA1:=Lib.hid (HAb.out wr k (HT.out.keep HBW.out) hlt)
   have HIN:Hid (∀ v w',Rd w' v (intV (upI l k)) → Calls Tryz.prog 67 #[v,.int .i64 a] w' (SameB w' (decide ((a:Int) ∈ upI l k)))):=Lib.hid (fun v w' h => rin_any v _ a w' h (by have:=HULL.out k; omega))
   cases hd:decide ((a:Int) ∈ upI l k) with
   | true =>
     rw [hd] at HIN
     have HX:Hid (endTo l a (k + 1) = k + 1):=Lib.hid (if_pos (upI_mem.1 (of_decide_eq_true hd)))
     clear hd
     go_wp2_with (go_at_call 34; (with_reducible refine HA1.out.mono ?_))
     rintro e w1 ⟨v,rfl,hrd,hb3⟩
     have HI1:=Lib.hid (HIN.out _ _ hrd)
     have HB3:=Lib.hid (below_two' HBW.out hb3)
     clear hrd hb3
     go_wp2_with (go_at_call 67; (with_reducible refine HI1.out.mono ?_); rintro e w' ⟨rfl,rfl⟩)
     go_roundw
     case rel => exact ⟨k + 1,by omega,by simp,by rw [HX.out]; simp,HB3.out⟩
     case measure => simp [intOf]; omega
   | false =>
     rw [hd] at HIN
     have HX:Hid (endTo l a (k + 1) = endTo l a k):=Lib.hid (if_neg (fun h => by simp [upI_mem.2 h] at hd))
     clear hd
     go_wp2_with (go_at_call 34; (with_reducible refine HA1.out.mono ?_))
     rintro e w1 ⟨v,rfl,hrd,hb3⟩
     have HI1:=Lib.hid (HIN.out _ _ hrd)
     have HB3:=Lib.hid (below_two' HBW.out hb3)
     clear hrd hb3
     go_wp2_with (go_at_call 67; (with_reducible refine HI1.out.mono ?_); rintro e w' ⟨rfl,rfl⟩)
     go_roundw
     case rel => exact ⟨k + 1,by omega,by simp,by rw [HX.out],HB3.out⟩
     case measure => simp [intOf]; omega
  ·obtain rfl:k = n:=by omega
   go_wp2_with fail
   go_ret
   exact ⟨rfl,HBW.out⟩
end Go.Proofs.YtcofikjpplkjdaaGreatDoor
namespace Go.Proofs.YtcofikjpplkjdaaGreatDoor
open Go.RowKit Go.Sort CurSpec TermSpec EvalSpec ActSpec NamesSpec ExprSpec TransSpec SynSpec PrintSpec
open ShapeSpec (Sh up sf endOf SU)
set_option maxRecDepth 100000
def SameS (W:World) (s:ByteArray) (e:Ending) (w':World):Prop:=e = .returned (.string s) ∧ W = w'
theorem bs_app (a b:List UInt8):bs a ++ bs b = bs (a ++ b):=by apply ByteArray.ext; simp [bs,ByteArray.data_append]
theorem bs_size (l:List UInt8):(bs l).size = l.length:=by simp [bs,ByteArray.size]
theorem inT_next (n:Nat):bs (inT n) ++ ⟨#[32,32]⟩ = bs (inT (n + 1)):=by
 rw [show (⟨#[32,32]⟩:ByteArray) = bs [32,32] from rfl,bs_app]
 unfold inT
 rw [show 2 * (n + 1) = 2 * n + 1 + 1 by omega,List.replicate_succ',List.replicate_succ',List.append_assoc]
 rfl
set_option maxHeartbeats 400000 in
theorem in_any (n:Nat) (hn:n ≤ 1000) (w:World):Calls Tryz.prog 33 #[.int .i64 n] w (SameS w (bs (inT n))):=by
 obtain ⟨R,hR⟩:∃ R,R = bs (inT n):=⟨_,rfl⟩
 have HR:=Lib.hid hR
 rw [← hR]
 clear hR
 go_enter Tryz.func33,Tryz.ntmps33
 go_wp2
 go_loop [3,4] (fun s i => ∃ k:Nat,k ≤ n ∧ i = .int .i64 k ∧ s = .string (bs (inT k))) (fun _ i => n - (intOf i).toNat)
 case atStart => exact ⟨0,Nat.zero_le _,rfl,rfl⟩
 case round =>
  obtain ⟨k,hk,rfl,rfl⟩:=hrel
  have HX:=Lib.hid (inT_next k)
  have hz:(bs (inT k)).size = 2 * k:=by rw [bs_size,inT_len]
  obtain ⟨S,hS⟩:∃ S,S = bs (inT k):=⟨_,rfl⟩
  have HS:=Lib.hid hS
  rw [← hS] at HX hz ⊢
  clear hS
  by_cases hlt:k < n
  ·have q1:¬ 9223372036854775807 < S.size + 2:=by omega
   go_wp2
   go_round
   case rel => exact ⟨k + 1,by omega,by go_num,congrArg Value.string HX.out⟩
   case measure => simp [intOf]; omega
  ·obtain rfl:k = n:=by omega
   go_wp2
   go_ret
   exact ⟨by rw [HR.out,← HS.out]; rfl,rfl⟩
set_option maxHeartbeats 400000 in
theorem small_any (n:Int) (w:World):Calls Tryz.prog 20 #[.int .i64 n] w (SameB w (smallV n)):=by
 have HE:Hid (smallV n = (decide (-1000 ≤ n) && decide (n ≤ 1000))):=Lib.hid rfl
 by_cases h1:-1000 ≤ n
 ·have g1:decide (-1000 ≤ n) = true:=by simpa using h1
  have HE2:Hid (smallV n = decide (n ≤ 1000)):=Lib.hid (by rw [HE.out,g1,Bool.true_and])
  go_enter Tryz.func20,Tryz.ntmps20
  go_wp2
  go_ret
  exact ⟨ret_bool HE2.out.symm,rfl⟩
 ·have g1:decide (-1000 ≤ n) = false:=by simpa using h1
  have HE2:Hid (smallV n = false):=Lib.hid (by rw [HE.out,g1,Bool.false_and])
  go_enter Tryz.func20,Tryz.ntmps20
  go_wp2
  go_ret
  exact ⟨ret_bool HE2.out.symm,rfl⟩
theorem sh_of (l:List Ts):(l.map Ts.sx).map shOf = l.map fun t => ⟨t.kind,t.par⟩:=by rw [List.map_map]; rfl
theorem empty_of (l:List Ts) (sh:List Sh) {i:Nat} {t:Ts} (ht:l[i]? = some t):emptyB sh l i = (decide (t.en.length = 0) && (decide (t.ex.length = 0) && (decide (t.tr.length = 0) && decide ((ShapeSpec.kids sh i).length = 0)))):=by
 unfold emptyB bareB
 rw [ht]
 simp only [Option.elim]
 have he:∀ {α:Type} (l:List α),l.isEmpty = decide (l.length = 0):=fun l => by cases l <;> simp
 rw [he,he,he,show decide (ShapeSpec.kids sh i = []) = decide ((ShapeSpec.kids sh i).length = 0) by simp [List.length_eq_zero_iff]]
 simp [Bool.and_assoc]
set_option maxHeartbeats 1000000 in
theorem empty_any (A:Option Addr) (n c:Nat) (l:List Ts) (i:Nat) (w:World) (h:StsP w (.slice A n c) (l.map Ts.sx)) (hi:i < n) (hm:n ≤ 1000000) :
 Calls Tryz.prog 32 #[.slice A n c,.int .i64 i] w (RetB w (emptyB (l.map fun t => ⟨t.kind,t.par⟩) l i)):=by
 obtain ⟨hn,hc⟩:=h.len
 rw [List.length_map] at hn
 obtain ⟨t,ht⟩:=get_some (l:=l) (k:=i) (by omega)
 obtain ⟨b,off,a3,n3,c3,a4,n4,c4,a5,n5,c5,rfl,hb,-,-,-,d3,d4,d5,k3,k4,k5⟩:=h.at_ (i:=i) (s:=t.sx) (by rw [List.getElem?_map,ht]; rfl)
 have l3:n3 = t.en.length:=by rw [k3.len.1]; exact List.length_map _
 have l4:n4 = t.ex.length:=by rw [k4.len.1]; exact List.length_map _
 have l5:n5 = t.tr.length:=by rw [k5.len.1]; exact List.length_map _
 have HK:=Lib.hid (rshkids_any (some ⟨b,off,none⟩) n c (l.map fun t => (⟨t.kind,t.par⟩:Sh)) i w (by rw [← sh_of]; exact h.sts) hm)
 have hkl:=ShapeSpec.kids_le (l.map fun t => (⟨t.kind,t.par⟩:Sh)) i (l.map fun t => (⟨t.kind,t.par⟩:Sh)).length
 rw [List.length_map] at hkl
 have hE:=empty_of l (l.map fun t => ⟨t.kind,t.par⟩) ht
 rw [← l3,← l4,← l5] at hE
 obtain ⟨r,hr⟩:∃ r,r = emptyB (l.map fun t => ⟨t.kind,t.par⟩) l i:=⟨_,rfl⟩
 rw [← hr] at hE ⊢
 obtain ⟨ks,hks⟩:∃ ks,ks = ShapeSpec.kids (l.map fun t => (⟨t.kind,t.par⟩:Sh)) i:=⟨_,rfl⟩
 rw [show ShapeSpec.kids (l.map fun t => (⟨t.kind,t.par⟩:Sh)) i = ks from hks.symm] at HK hE
 rw [show ShapeSpec.kidsTo (l.map fun t => (⟨t.kind,t.par⟩:Sh)) i l.length = ks by rw [hks]; unfold ShapeSpec.kids; rw [List.length_map]] at hkl
 have HE:=Lib.hid hE
 have hkl':ks.length ≤ 1000000:=by omega
 clear h k3 k4 k5 l3 l4 l5 ht hr hks hE hn hkl
 by_cases e3:n3 = 0
 case neg =>
  have g3:((n3:Int) == 0) = false:=by simp; omega
  have HR:Hid (r = false):=Lib.hid (by rw [HE.out]; simp [e3])
  go_enter Tryz.func32,Tryz.ntmps32
  go_wp2_with fail
  go_ret
  exact ⟨ret_bool HR.out.symm,Below.refl _ _⟩
 subst e3
 by_cases e4:n4 = 0
 case neg =>
  have g4:((n4:Int) == 0) = false:=by simp; omega
  have HR:Hid (r = false):=Lib.hid (by rw [HE.out]; simp [e4])
  go_enter Tryz.func32,Tryz.ntmps32
  go_wp2_with fail
  go_ret
  exact ⟨ret_bool HR.out.symm,Below.refl _ _⟩
 subst e4
 by_cases e5:n5 = 0
 case neg =>
  have g5:((n5:Int) == 0) = false:=by simp; omega
  have HR:Hid (r = false):=Lib.hid (by rw [HE.out]; simp [e5])
  go_enter Tryz.func32,Tryz.ntmps32
  go_wp2_with fail
  go_ret
  exact ⟨ret_bool HR.out.symm,Below.refl _ _⟩
 subst e5
 have HR:Hid (r = decide (ks.length = 0)):=Lib.hid (by rw [HE.out]; simp)
 go_enter Tryz.func32,Tryz.ntmps32
 go_wp2_with (go_at_call 68; (with_reducible refine HK.out.mono ?_))
 rintro e2 w2 hx
 obtain ⟨A2,c2,rfl,hv,hb2⟩:=retInts_shape hx
 have HB:=Lib.hid hb2
 clear hb2 hv hx
 go_wp2_with fail
 go_ret
 exact ⟨ret_bool (by rw [HR.out,Bool.eq_iff_iff]; simp),HB.out⟩
end Go.Proofs.YtcofikjpplkjdaaGreatDoor