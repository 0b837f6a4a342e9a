/- PrintLong, TransAwake, joined. -/
import Derived.Test.YtcofikjpplkjdaaGreatDoorMPrintLong27
import Derived.Test.YtcofikjpplkjdaaGreatDoorMPrintLong33
import Derived.Test.YtcofikjpplkjdaaGreatDoorMPrintLong35
import Derived.Test.YtcofikjpplkjdaaGreatDoorMPrintLong14
namespace Go.Proofs.YtcofikjpplkjdaaGreatDoor
namespace PrintSpec
open CurSpec TermSpec EvalSpec ActSpec NamesSpec ExprSpec TransSpec SynSpec ShapeSpec
def shG (n:Nat):List Sh:=⟨2,-1⟩ :: List.replicate n ⟨1,0⟩
def exG:Ex:=.leaf ⟨9,0,⟨#[]⟩⟩
def ttG:Tt:=⟨⟨#[103,111]⟩,some exG,[⟨⟨#[120]⟩,true,exG⟩],⟨#[97]⟩⟩
def topG:Ts:=⟨⟨#[116,111,112]⟩,2,-1,[],[],[]⟩
def tsG (k:Nat):Ts:=⟨⟨#[97]⟩,1,0,[],[],List.replicate k ttG⟩
def tcG (n k:Nat):Tc:=⟨⟨#[99]⟩,[],[],topG :: List.replicate n (tsG k)⟩
theorem tcG_sh (n k:Nat):(tcG n k).sh = shG n:=by simp [Tc.sh,tcG,shG,topG,tsG]
theorem shG_chk:∀ n < 60,chk (shG n) = 0:=by decide +kernel
theorem shG_up:∀ n < 60,∀ i < n + 1,up (shG n) i = if i = 0 then [] else [0]:=by decide +kernel
theorem endTo_none {l:List Sh} {i:Nat}:∀ n,(∀ k < n,i ∉ up l k) → endTo l i n = i + 1
 | 0,_ => rfl
 | n + 1,h => by rw [endTo,if_neg (h n (by omega)),endTo_none n fun k hk => h k (by omega)]
theorem shG_len (n:Nat):(shG n).length = n + 1:=by simp [shG]
theorem shG_end (n:Nat) (hn:n < 60) (i:Nat) (hi:i < n + 1):endOf (shG n) i = if i = 0 then n + 1 else i + 1:=by
 unfold endOf
 rw [shG_len]
 by_cases h:i = 0
 ·subst h
  rw [if_pos rfl,endTo,shG_up n hn n (by omega)]
  cases n with
  | zero => rfl
  | succ n => simp
 ·rw [if_neg h,endTo_none]
  intro k hk
  rw [shG_up n hn k hk]
  split
  ·simp
  ·simpa using h
theorem shG_kids:∀ n < 60,∀ i < n + 1,(ShapeSpec.kids (shG n) i = [] ↔ (i ≠ 0 ∨ n = 0)):=by decide +kernel
theorem ttG_ok:ttG.Ok:=by
 refine ⟨by decide +kernel,by decide +kernel,?_,?_,by decide⟩
 ·rintro e he
  cases he
  exact ⟨⟨by decide,by decide⟩,by decide⟩
 ·intro t ht
  rw [List.mem_singleton.1 ht]
  exact ⟨by decide +kernel,fun h => by cases h⟩
theorem tcG_ok {n k:Nat} (hn:n < 60) (hk:k ≤ 16):(tcG n k).Ok:=by
 refine ⟨(show isName [99] = true by decide +kernel),Nat.zero_le _,Nat.zero_le _,(by rw [tcG_sh]; exact shG_chk n hn),(fun e he => by cases he),(fun e he => by cases he),?_⟩
 intro t ht
 rcases List.mem_cons.1 ht with rfl | ht
 ·exact ⟨by decide +kernel,(fun e he => by cases he),by decide,(fun e he => by cases he),by decide,(fun e he => by cases he),by decide⟩
 ·rw [List.eq_of_mem_replicate ht]
  refine ⟨(show isName [97] = true by decide +kernel),(fun e he => by cases he),Nat.zero_le _,(fun e he => by cases he),Nat.zero_le _,?_,?_⟩
  ·intro t ht
   rw [List.eq_of_mem_replicate ht]
   exact ttG_ok
  ·show (List.replicate k ttG).length ≤ 16
   rw [List.length_replicate]
   exact hk
theorem tkG_len:(tkT ttG).length = 11:=by decide +kernel
theorem lineG_len:(lineT 3 ttG).length ≤ 40:=by decide +kernel
theorem insG_len (k:Nat):(insK (tsG k)).length = 11 * k:=by
 show ([] ++ ([] ++ (List.replicate k ttG).flatMap tkT)).length = _
 simp only [List.nil_append,List.length_flatMap,List.map_replicate,tkG_len,List.sum_replicate_nat]
 omega
theorem sum_last (c:Nat):∀ (n:Nat),((List.range n).map fun j => c + if j + 1 = n then 1 else 0).sum = n * c + if n = 0 then 0 else 1
 | 0 => by simp
 | m + 1 => by
   rw [List.range_succ,List.map_append,List.sum_append]
   have:((List.range m).map fun j => c + if j + 1 = m + 1 then 1 else 0) = (List.range m).map fun _ => c:=by
    apply List.map_congr_left
    intro j hj
    have:=List.mem_range.1 hj
    rw [if_neg (by omega)]
    rfl
   rw [this]
   rw [List.map_const',List.sum_replicate_nat,List.length_range]
   simp [Nat.succ_mul]
   omega
section
variable {n k:Nat} (hn:n < 60)
theorem tcG_at {j:Nat} (hj:j < n):(tcG n k).sts[j + 1]? = some (tsG k):=by
 show (List.replicate n (tsG k))[j]? = _
 rw [List.getElem?_replicate,if_pos hj]
include hn
theorem empG_top:emptyB (shG n) (tcG n k).sts 0 = decide (n = 0):=by
 have:=shG_kids n hn 0 (by omega)
 unfold emptyB
 rw [show (tcG n k).sts[0]? = some topG from rfl]
 by_cases h:n = 0
 ·rw [decide_eq_true (this.2 (.inr h)),decide_eq_true h]; rfl
 ·rw [decide_eq_false (fun h' => (this.1 h').elim (fun h'' => h'' rfl) h),decide_eq_false h]; rfl
theorem empG {j:Nat} (hj:j < n):emptyB (shG n) (tcG n k).sts (j + 1) = decide (k = 0):=by
 have:=(shG_kids n hn (j + 1) (by omega)).2 (.inl (by omega))
 unfold emptyB
 rw [tcG_at hj,decide_eq_true this,Bool.and_true]
 cases k with
 | zero => rfl
 | succ k => rfl
theorem stG_top:(stK (shG n) (tcG n k).sts 0 ++ closK (shG n) (tcG n k).sts 0).length = 3:=by
 have h1:(stK (shG n) (tcG n k).sts 0).length = 3:=by
  unfold stK
  rw [show (tcG n k).sts[0]? = some topG from rfl,empG_top hn]
  by_cases h:n = 0
  ·rw [decide_eq_true h]; rfl
  ·rw [decide_eq_false h]; rfl
 have h2:closK (shG n) (tcG n k).sts 0 = []:=by
  unfold closK sf
  rw [shG_up n hn 0 (by omega),if_pos rfl]
  simp only [List.flatMap_cons,List.flatMap_nil,List.append_nil]
  unfold oneK
  rw [if_neg]
  rw [shG_end n hn 0 (by omega),if_pos rfl,empG_top hn]
  rintro ⟨h1,h2⟩
  have:=of_decide_eq_false h2
  omega
 rw [h2,List.append_nil,h1]
def leafG (k:Nat):Nat:=if k = 0 then 3 else 4 + 11 * k
theorem stG_leaf {j:Nat} (hj:j < n):(stK (shG n) (tcG n k).sts (j + 1) ++ closK (shG n) (tcG n k).sts (j + 1)).length = leafG k + if j + 1 = n then 1 else 0:=by
 have h0:closK (shG n) (tcG n k).sts (j + 1) = (if k = 0 then [] else [(3,[125])]) ++ (if j + 1 = n then [(3,[125])] else []):=by
  unfold closK sf
  rw [shG_up n hn (j + 1) (by omega),if_neg (by omega)]
  simp only [List.flatMap_cons,List.flatMap_nil,List.append_nil]
  unfold oneK
  have e1:endOf (shG n) (j + 1) = j + 1 + 1:=by rw [shG_end n hn (j + 1) (by omega),if_neg (by omega)]
  have e2:endOf (shG n) 0 = n + 1:=by rw [shG_end n hn 0 (by omega),if_pos rfl]
  rw [e1,e2,empG_top hn,empG hn hj]
  congr 1
  ·by_cases h:k = 0
   ·rw [if_pos h,if_neg]; simp [h]
   ·rw [if_neg h,if_pos]; simp [h]
  ·by_cases h:j + 1 = n
   ·rw [if_pos h,if_pos]; refine ⟨by omega,decide_eq_false (by omega)⟩
   ·rw [if_neg h,if_neg]; rintro ⟨h1,-⟩; omega
 rw [h0]
 unfold stK
 rw [tcG_at hj,empG hn hj]
 have h3:=insG_len k
 unfold leafG
 simp only [Option.elim]
 by_cases h:k = 0
 ·rw [decide_eq_true h,if_pos rfl,if_pos h,if_pos h]
  by_cases h':j + 1 = n
  ·rw [if_pos h',if_pos h']; rfl
  ·rw [if_neg h',if_neg h']; rfl
 ·rw [decide_eq_false h,if_neg (by decide),if_neg h,if_neg h]
  by_cases h':j + 1 = n
  ·rw [if_pos h',if_pos h']; simp only [List.length_append,List.length_cons,List.length_nil,headK,h3]; omega
  ·rw [if_neg h',if_neg h']; simp only [List.length_append,List.length_cons,List.length_nil,headK,h3]; omega
theorem stsG_len:(stsK (shG n) (tcG n k).sts).length = 3 + (n * leafG k + if n = 0 then 0 else 1):=by
 unfold stsK
 rw [show (tcG n k).sts.length = n + 1 by simp [tcG],List.length_flatMap,List.range_succ_eq_map,List.map_cons,List.sum_cons,List.map_map,stG_top hn,← sum_last (leafG k) n]
 congr 2
 apply List.map_congr_left
 intro j hj
 exact stG_leaf hn (List.mem_range.1 hj)
theorem tcG_len:(chK (tcG n k)).length = 4 + (3 + (n * leafG k + if n = 0 then 0 else 1)):=by
 have:=stsG_len (k:=k) hn
 unfold chK
 rw [tcG_sh]
 simp only [List.length_append,List.length_cons,List.length_nil,this]
 show 0 + 1 + 1 + 1 + (0 + (0 + _)) = _
 omega
omit hn in
theorem one_le (hn:n < 60) (i j:Nat) (hj:j < n + 1):(oneT (shG n) (tcG n k).sts i j).length ≤ 6:=by
 unfold oneT
 rw [shG_up n hn j hj]
 split
 ·simp only [List.length_append,List.length_cons,List.length_nil,inT_len]
  split
  ·simp
  ·simp
 ·simp
omit hn in
theorem insG_le (k:Nat):(insT 3 (tsG k)).length ≤ 40 * k:=by
 show ([] ++ ([] ++ (List.replicate k ttG).flatMap (lineT 3))).length ≤ _
 have:=lineG_len
 simp only [List.nil_append,List.length_flatMap,List.map_replicate,List.sum_replicate_nat]
 rw [Nat.mul_comm]
 exact Nat.mul_le_mul_right _ this
theorem stG_le {i:Nat} (hi:i < n + 1):(stT (shG n) (tcG n k).sts i ++ closT (shG n) (tcG n k).sts i).length ≤ 40 + 40 * k:=by
 have hu:=shG_up n hn i hi
 have h2:(closT (shG n) (tcG n k).sts i).length ≤ 12:=by
  have:=flat_le (oneT (shG n) (tcG n k).sts i) (fun _ => 0) 6 0 (L:=sf (shG n) i) fun j hj => by
   have:=one_le (k:=k) hn i j (by have:=sf_le hj; omega)
   omega
  have hsf:(sf (shG n) i).length = (up (shG n) i).length + 1:=rfl
  have hu1:(up (shG n) i).length ≤ 1:=by
   rw [hu]
   split <;> simp
  unfold closT
  omega
 have h1:(stT (shG n) (tcG n k).sts i).length ≤ 20 + 40 * k:=by
  unfold stT
  rcases i with _ | j
  ·rw [show (tcG n k).sts[0]? = some topG from rfl,hu,if_pos rfl]
   simp only [Option.elim]
   split
   ·exact Nat.le_trans (show _ ≤ 20 by decide +kernel) (by omega)
   ·exact Nat.le_trans (show _ ≤ 20 by decide +kernel) (by omega)
  ·rw [tcG_at (by omega),hu,if_neg (by omega)]
   simp only [Option.elim]
   have h3:=insG_le k
   have h4:(headT (tsG k)).length = 6:=rfl
   split
   ·simp only [List.length_append,List.length_cons,List.length_nil,inT_len,h4]
    omega
   ·simp only [List.length_append,List.length_cons,List.length_nil,inT_len,h4]
    show _ + (insT 3 (tsG k)).length ≤ _
    omega
 rw [List.length_append]
 omega
theorem tcG_bytes (hk:k ≤ 16) (ht:(chK (tcG n k)).length ≤ 4000):(putC (tcG n k)).length ≤ 65536:=by
 rw [tcG_len hn] at ht
 have h1:=flat_le (fun i => stT (shG n) (tcG n k).sts i ++ closT (shG n) (tcG n k).sts i) (fun _ => 0) (40 + 40 * k) 0 (L:=List.range (n + 1)) fun i hi => by
  have:=stG_le (k:=k) hn (List.mem_range.1 hi)
  omega
 have h2:11 * (n * k) ≤ n * leafG k:=by
  rw [Nat.mul_left_comm]
  refine Nat.mul_le_mul_left _ ?_
  unfold leafG
  split <;> omega
 have h3:(stsT (shG n) (tcG n k).sts).length ≤ (40 + 40 * k) * (n + 1):=by
  unfold stsT
  rw [show (tcG n k).sts.length = n + 1 by simp [tcG]]
  simpa using h1
 have h4:(40 + 40 * k) * (n + 1) = 40 * n + 40 + (40 * (n * k) + 40 * k):=by
  rw [Nat.add_mul,Nat.mul_add,Nat.mul_add,Nat.mul_assoc 40 k n,Nat.mul_comm k n]
  omega
 unfold putC
 rw [tcG_sh]
 simp only [List.length_append,List.length_cons,List.length_nil,inT_len]
 show _ + (0 + (0 + _)) ≤ _
 have h5:(T (tcG n k).s).length = 1:=rfl
 rw [h5]
 omega
end
end PrintSpec
end Go.Proofs.YtcofikjpplkjdaaGreatDoor
namespace Go.Proofs.YtcofikjpplkjdaaGreatDoor
open Go.RowKit Go.Sort TermSpec EvalSpec ActSpec NamesSpec ExprSpec TransSpec
set_option maxRecDepth 100000
theorem tb_one'' (a:Int) (w:World):(Instr.build 44 #[(0,.int .i64 a)]).run Tryz.prog w = .ok (.agg #[.int .i64 a,.int .i64 0,.string ⟨#[]⟩]) w:=run_build w 44 _ _ (by kernel_rfl)
theorem tb_full (s u:ByteArray) (A B:Option Addr) (n c m d:Nat) (w:World):(Instr.build 49 #[(0,.string s),(1,.slice A n c),(2,.slice B m d),(3,.string u)]).run Tryz.prog w = .ok (.agg #[.string s,.slice A n c,.slice B m d,.string u]) w:=run_build w 49 _ _ (by kernel_rfl)
theorem rdk_whole {k n c b:Nat} {w:World} {cs:Array Value} {T:TypeId} {fr:Nat × Nat} {xs:List Value} (h:w.heap[b]? = some (.cells cs T fr)) (hx:cs.toList = xs) (hl:xs.length = n * k) (hc:n ≤ c):Rdk k w (.slice (some ⟨b,0,none⟩) n c) n xs:=by
 refine ⟨_,c,rfl,hc,hl,fun _ => ⟨b,0,rfl,(Array.getElem?_eq_some_iff.1 h).1,fun j u hj => ?_⟩⟩
 rw [← hx,Array.getElem?_toList] at hj
 simp [World.cell?,h,hj]
end Go.Proofs.YtcofikjpplkjdaaGreatDoor