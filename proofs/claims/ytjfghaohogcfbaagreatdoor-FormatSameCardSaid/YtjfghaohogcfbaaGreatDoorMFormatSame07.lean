/- ExprText, ActTextSpec, ExprBetween, joined. -/
import Derived.Test.YtjfghaohogcfbaaGreatDoorMFormatSame01
import Derived.Test.YtjfghaohogcfbaaGreatDoorMFormatSame06
import Derived.Deep.RegionHeld3
import Derived.Test.YtjfghaohogcfbaaGreatDoorMFormatSame00
import Derived.Lib.Join
namespace Go.Proofs.YtjfghaohogcfbaaGreatDoor
open Go.RowKit CurSpec TermSpec ExprSpec
set_option maxRecDepth 100000
namespace ExprSpec
def bk (b:Prop) [Decidable b] (s:ByteArray):ByteArray:=if b then (⟨#[40]⟩ ++ s) ++ ⟨#[41]⟩ else s
def tx:Ex → ByteArray
 | .leaf t => if t.op = 1 then bs (ValSpec.text t.n) else if t.op = 2 then t.s else if t.op = 9 then ⟨#[116,114,117,101]⟩ else if t.op = 10 then ⟨#[102,97,108,115,101]⟩ else (⟨#[105,110,40]⟩ ++ t.s) ++ ⟨#[41]⟩
 | .un o a => if o = 3 then ⟨#[45]⟩ ++ bk (lev a < 7) (tx a) else ⟨#[110,111,116,32]⟩ ++ bk (lev a < 3) (tx a)
 | .bin o a b => if o = 7 then (((⟨#[109,105,110,40]⟩ ++ tx a) ++ ⟨#[44,32]⟩) ++ tx b) ++ ⟨#[41]⟩
   else if o = 8 then (((⟨#[109,97,120,40]⟩ ++ tx a) ++ ⟨#[44,32]⟩) ++ tx b) ++ ⟨#[41]⟩
   else (((bk (lev a < (sgOf o).left) (tx a) ++ ⟨#[32]⟩) ++ (sgOf o).t) ++ ⟨#[32]⟩) ++ bk (lev b < (sgOf o).right) (tx b)
def opE:Ex → Int
 | .leaf t => t.op
 | .un o _ => o
 | .bin o _ _ => o
def levO (o:Int):Int:=if o = 1 ∨ o = 2 ∨ o = 9 ∨ o = 10 ∨ o = 11 ∨ o = 7 ∨ o = 8 then 8 else if o = 12 then 3 else if o = 3 then 7 else (opSg o).lev
theorem lev_opE {e:Ex} (h:Good e):lev e = levO (opE e):=by
 cases e with
 | leaf t =>
   have:=leaf_ops h.1
   show (8:Int) = levO t.op
   unfold levO
   rw [if_pos (by omega)]
 | un o a =>
   have ho:o = 3 ∨ o = 12:=by
    have h1:=h.1
    unfold ar at h1
    split at h1
    ·omega
    split at h1
    ·assumption
    split at h1 <;> omega
   rcases ho with rfl | rfl <;> rfl
 | bin o a b =>
   have e:lev (.bin o a b) = if o = 7 ∨ o = 8 then 8 else (sgOf o).lev:=rfl
   rw [e]
   show _ = levO o
   unfold levO
   by_cases h7:o = 7 ∨ o = 8
   ·rw [if_pos h7,if_pos (by omega)]
   ·have h1:¬ (o = 1 ∨ o = 2 ∨ o = 9 ∨ o = 10 ∨ o = 11 ∨ o = 12 ∨ o = 3):=by
     rintro (rfl | rfl | rfl | rfl | rfl | rfl | rfl) <;> exact absurd h.1 (by decide)
    rw [if_neg h7,if_neg (by omega),if_neg (by omega),if_neg (by omega)]
    rfl
theorem bk_size (b:Prop) [Decidable b] (s:ByteArray):(bk b s).size ≤ s.size + 2:=by
 unfold bk
 split
 ·rw [ByteArray.size_append,ByteArray.size_append]
  show 1 + s.size + 1 ≤ _
  omega
 ·omega
theorem bs_size (l:List UInt8):(bs l).size = l.length:=rfl
theorem name_size {s:ByteArray} (h:NamesSpec.isName s.data.toList = true):s.size ≤ 12:=by
 unfold NamesSpec.isName at h
 simp only [Bool.and_eq_true,decide_eq_true_eq] at h
 have:=h.1.1.1.2
 rwa [show s.data.toList.length = s.size from rfl] at this
theorem text_size {n:Int} (h:0 ≤ n ∧ n ≤ 1000000):(ValSpec.text n).length ≤ 12:=by
 unfold ValSpec.text
 rw [if_neg (by omega)]
 have:=ValSpec.digs_len 6 n.natAbs (by omega)
 omega
theorem sg_size:∀ s ∈ sgs,s.t.size ≤ 3:=by decide
theorem tx_size:∀ {e:Ex},Good e → (tx e).size ≤ 30 * (flat e).length
 | .leaf t,h => by
   show (tx (.leaf t)).size ≤ 30
   unfold tx
   rcases leaf_ops h.1 with h1 | h1 | h1 | h1 | h1
   ·rw [if_pos h1,bs_size]
    have:=text_size (may_num h1 h.2).1
    omega
   ·rw [if_neg (by omega),if_pos h1]
    have:=name_size (may_name (.inl h1) h.2).1
    omega
   ·rw [if_neg (by omega),if_neg (by omega),if_pos h1]
    decide
   ·rw [if_neg (by omega),if_neg (by omega),if_neg (by omega),if_pos h1]
    decide
   ·rw [if_neg (by omega),if_neg (by omega),if_neg (by omega),if_neg (by omega),ByteArray.size_append,ByteArray.size_append]
    have:=name_size (may_name (.inr h1) h.2).1
    show 3 + t.s.size + 1 ≤ 30
    omega
 | .un o a,h => by
   have ih:=tx_size h.2
   have h7:=bk_size (lev a < 7) (tx a)
   have h3:=bk_size (lev a < 3) (tx a)
   show (tx (.un o a)).size ≤ 30 * ((flat a).length + 1)
   unfold tx
   split
   ·rw [ByteArray.size_append]
    show 1 + _ ≤ _
    omega
   ·rw [ByteArray.size_append]
    show 4 + _ ≤ _
    omega
 | .bin o a b,h => by
   have iha:=tx_size h.2.1
   have ihb:=tx_size h.2.2
   have hl:=bk_size (lev a < (sgOf o).left) (tx a)
   have hr:=bk_size (lev b < (sgOf o).right) (tx b)
   show (tx (.bin o a b)).size ≤ 30 * ((flat a ++ flat b).length + 1)
   rw [List.length_append]
   unfold tx
   by_cases h7:o = 7
   ·rw [if_pos h7]
    simp only [ByteArray.size_append]
    show 4 + _ + 2 + _ + 1 ≤ _
    omega
   by_cases h8:o = 8
   ·rw [if_neg h7,if_pos h8]
    simp only [ByteArray.size_append]
    show 4 + _ + 2 + _ + 1 ≤ _
    omega
   ·rw [if_neg h7,if_neg h8]
    have:=sg_size _ (sgOf_mem h.1 (by omega)).1
    simp only [ByteArray.size_append]
    show _ + 1 + _ + 1 + _ ≤ _
    omega
theorem flat_first (e:Ex):∃ t r,flat e = t :: r ∧ t.op = opE e:=by
 cases e with
 | leaf t => exact ⟨t,[],rfl,rfl⟩
 | un o a => exact ⟨opT o,flat a,rfl,rfl⟩
 | bin o a b => exact ⟨opT o,flat a ++ flat b,rfl,rfl⟩
end ExprSpec
def RetS (W:World) (s:ByteArray) (e:Ending) (w':World):Prop:=e = .returned (.string s) ∧ Below W.heap.size W w'
structure TxAt (W:World) (A:Option Addr) (n c:Nat) (l:List Tm):Prop where
 tms:Tms W (.slice A n c) l
 len:n = l.length
 few:n ≤ 1000
 sg:SignsIn W
theorem TxAt.on {W W':World} {A:Option Addr} {n c:Nat} {l:List Tm} (h:TxAt W A n c l) (hb:Below W.heap.size W W'):TxAt W' A n c l:=⟨h.tms.keep hb,h.len,h.few,h.sg.keep hb⟩
def TextOk (e:Ex):Prop:=∀ A n c l (a:Nat) rest W,TxAt W A n c l → l.drop a = flat e ++ rest → Calls Tryz.prog 190 #[.slice A n c,.int .i64 a] W (RetS W (tx e))
def WithinOk (e:Ex):Prop:=∀ A n c l (a:Nat) rest (k:Int) W,TxAt W A n c l → l.drop a = flat e ++ rest → Calls Tryz.prog 201 #[.slice A n c,.int .i64 a,.int .i64 k] W (RetS W (bk (lev e < k) (tx e)))
theorem sg_field (x0 x1 x2 x3 x4:Value) (w:World):(Instr.field 233 (.agg #[x0,x1,x2,x3,x4]) 2).run Tryz.prog w = .ok x2 w:=by kernel_rfl
set_option maxHeartbeats 2000000 in
theorem level_any (o:Int) (w:World) (hs:SignsIn w):Calls Tryz.prog 210 #[.int .i64 o] w (RetI w (levO o)):=by
 have HS:Hid (Calls Tryz.prog 202 #[.int .i64 o] w fun e w' => e = .returned (.agg #[.string (opSg o).t,.int .i64 (opSg o).op,.int .i64 (opSg o).lev,.int .i64 (opSg o).left,.int .i64 (opSg o).right]) ∧ Below w.heap.size w w'):=Lib.hid (signOf_any o w hs)
 clear hs
 by_cases h8:o = 1 ∨ o = 2 ∨ o = 9 ∨ o = 10 ∨ o = 11 ∨ o = 7 ∨ o = 8
 ·have HO:Hid (levO o = 8):=Lib.hid (if_pos h8)
  rcases h8 with rfl | rfl | rfl | rfl | rfl | rfl | rfl
  all_goals
   go_enter Tryz.func210,Tryz.ntmps210
   go_wp2_with fail
   go_ret
   exact ⟨by rw [HO.out]; rfl,Below.refl _ _⟩
 ·by_cases h12:o = 12
  ·subst h12
   go_enter Tryz.func210,Tryz.ntmps210
   go_wp2_with fail
   go_ret
   exact ⟨rfl,Below.refl _ _⟩
  ·by_cases h3:o = 3
   ·subst h3
    go_enter Tryz.func210,Tryz.ntmps210
    go_wp2_with fail
    go_ret
    exact ⟨rfl,Below.refl _ _⟩
   ·have HO:Hid (levO o = (opSg o).lev):=Lib.hid (by unfold levO; rw [if_neg h8,if_neg h12,if_neg h3])
    have e1:(o == 1) = false:=by simp; omega
    have e2:(o == 2) = false:=by simp; omega
    have e3:(o == 9) = false:=by simp; omega
    have e4:(o == 10) = false:=by simp; omega
    have e5:(o == 11) = false:=by simp; omega
    have e6:(o == 7) = false:=by simp; omega
    have e7:(o == 8) = false:=by simp; omega
    have e8:(o == 12) = false:=by simp; omega
    have e9:(o == 3) = false:=by simp; omega
    have hfl:=sg_field
    clear h8 h12 h3
    go_enter Tryz.func210,Tryz.ntmps210
    go_wp2_with (go_at_call 202; (with_reducible refine HS.out.mono ?_))
    rintro e w1 ⟨rfl,hb1⟩
    have HB1:=Lib.hid hb1
    clear hb1
    go_wp2_with fail
    go_ret
    exact ⟨by rw [HO.out]; rfl,HB1.out⟩
set_option maxHeartbeats 2000000 in
theorem within_ok {x:Ex} (hg:ExprSpec.Good x) (ht:TextOk x):WithinOk x:=by
 intro A n c l a rest k w h hd
 have HTX:=Lib.hid (ht A n c l a rest w h hd)
 obtain ⟨t,r,hf,hop⟩:=flat_first x
 have hla:l[a]? = some t:=by
  have:(l.drop a)[0]? = some t:=by rw [hd,hf]; rfl
  rwa [List.getElem?_drop] at this
 obtain ⟨b,off,rfl,hb,c0,-,-⟩:=h.tms.at_ hla
 have hlen:=h.len
 have hal:a < n:=by have:=get_lt hla; omega
 have hz:(tx x).size ≤ 60000:=by
  have h1:=tx_size hg
  have h2:=congrArg List.length hd
  have h3:=h.few
  rw [List.length_drop,List.length_append] at h2
  omega
 have hal':(a:Int) < n:=by omega
 have HL:=Lib.hid (fun w h => level_any t.op w h)
 obtain ⟨lv,hlv⟩:∃ lv,lv = levO t.op:=⟨_,rfl⟩
 rw [← hlv] at HL
 have HE:Hid (lev x = lv):=Lib.hid (by rw [lev_opE hg,hlv,hop])
 obtain ⟨o,ho⟩:∃ o,o = t.op:=⟨_,rfl⟩
 rw [← ho] at HL c0
 have HS:=Lib.hid h.sg
 have HC0:=Lib.hid c0
 clear ht h hd hf hop hla hlen ho hlv c0
 by_cases hk:lv < k
 all_goals
  go_enter Tryz.func201,Tryz.ntmps201
  go_wp2_with (go_at_call 190; (with_reducible refine HTX.out.mono ?_))
  rintro e w1 ⟨rfl,hb1⟩
  have c1:=(hb1.cell (p:=⟨b,off + a * 3,none⟩) hb).trans HC0.out
  have HL1:=Lib.hid (HL.out w1 (HS.out.keep hb1))
  have HB1:=Lib.hid hb1
  clear hb1
  go_wp2_with (go_at_call 210; (with_reducible refine HL1.out.mono ?_))
  rintro e w2 ⟨rfl,hb2⟩
  have HB2:=Lib.hid (below_two' HB1.out hb2)
  clear hb2 c1
  go_wp2_with fail
  go_ret
  refine ⟨?_,HB2.out⟩
  rw [HE.out]
  first | rw [show bk (lv < k) (tx x) = (⟨#[40]⟩ ++ tx x) ++ ⟨#[41]⟩ from if_pos hk] | rw [show bk (lv < k) (tx x) = tx x from if_neg (by omega)]
  rfl
end Go.Proofs.YtjfghaohogcfbaaGreatDoor
namespace Go.Proofs.YtjfghaohogcfbaaGreatDoor
namespace ActSpec
open TermSpec EvalSpec NamesSpec ExprSpec
structure Ta where
 s:ByteArray
 any:Bool
 e:Ex
def Ta.ac (t:Ta):Ac:=⟨t.s,t.any,if t.any then [] else flat t.e⟩
def Ta.Ok (t:Ta):Prop:=isName t.s.data.toList = true ∧ (t.any = false → ExprSpec.Good t.e ∧ chk (flat t.e) = 0)
theorem ta_one {t:Ta} (h:t.Ok):oneA t.ac = 0:=by
 unfold oneA Ta.ac
 rw [if_neg (by simp [h.1])]
 rcases ha:t.any with _ | _
 ·simp [(h.2 ha).2]
 ·simp
theorem tas_first:∀ {ts:List Ta},(∀ t ∈ ts,t.Ok) → firstA (ts.map Ta.ac) = 0
 | [],_ => rfl
 | t :: ts,h => by
   rw [List.map_cons]
   unfold firstA
   rw [if_pos (ta_one (h t (by simp)))]
   exact tas_first fun u hu => h u (by simp [hu])
def txA (t:Ta):ByteArray:=if t.any then ⟨#[97,110,121,32]⟩ ++ t.s else t.s ++ ⟨#[32,58,61,32]⟩ ++ tx t.e
theorem ta_few {t:Ta} (h:t.Ok) (ha:t.any = false):(flat t.e).length ≤ 40:=(wholeB_iff.1 (chk_ok (h.2 ha).2).1).1
theorem txA_size {t:Ta} (h:t.Ok):(txA t).size ≤ 1300:=by
 have h1:=name_size h.1
 unfold txA
 rcases ha:t.any with _ | _
 ·have h2:=tx_size (h.2 ha).1
  have h3:=ta_few h ha
  simp only [Bool.false_eq_true,if_false,ByteArray.size_append]
  show t.s.size + 4 + (tx t.e).size ≤ 1300
  omega
 ·simp only [if_true,ByteArray.size_append]
  show 4 + t.s.size ≤ 1300
  omega
def putT (ts:List Ta):List UInt8:=Lib.join (ts.map fun t => (txA t).data.toList) [44,32]
def putB (ts:List Ta):ByteArray:=⟨(putT ts).toArray⟩
theorem putT_snoc (ts:List Ta) (t:Ta):putT (ts ++ [t]) = (if ts = [] then [] else putT ts ++ [44,32]) ++ (txA t).data.toList:=by
 unfold putT
 cases ts with
 | nil => simp [Lib.join_one]
 | cons u r =>
   rw [if_neg (by simp)]
   simp only [List.cons_append,List.map_cons,List.map_append,Lib.join_cons,List.map_nil]
   unfold Lib.joinTail
   simp
theorem putB_snoc (ts:List Ta) (t:Ta):putB (ts ++ [t]) = (if ts = [] then ⟨#[]⟩ else putB ts ++ ⟨#[44,32]⟩) ++ txA t:=by
 apply ByteArray.ext
 apply Array.ext'
 rw [ByteArray.data_append]
 simp only [putB,putT_snoc]
 split
 ·simp
 ·simp [ByteArray.data_append]
theorem putB_size {ts:List Ta} (h:∀ t ∈ ts,t.Ok):(putB ts).size ≤ 1302 * ts.length:=by
 have:∀ n,n ≤ ts.length → (putB (ts.take n)).size ≤ 1302 * n:=by
  intro n
  induction n with
  | zero => intro _; simp [putB,putT,Lib.join_nil,ByteArray.size]
  | succ n ih =>
    intro hn
    have hg:ts[n]? = some ts[n]:=List.getElem?_eq_getElem (by omega)
    have h1:=ih (by omega)
    have h2:=txA_size (h ts[n] (List.getElem_mem _))
    rw [List.take_add_one,hg,Option.toList_some,putB_snoc,ByteArray.size_append]
    split
    ·show 0 + _ ≤ _
     omega
    ·rw [ByteArray.size_append]
     show _ + 2 + _ ≤ _
     omega
 have h2:=this ts.length (Nat.le_refl _)
 rwa [List.take_length] at h2
end ActSpec
end Go.Proofs.YtjfghaohogcfbaaGreatDoor
namespace Go.Proofs.YtjfghaohogcfbaaGreatDoor
open Go.RowKit CurSpec TermSpec ExprSpec
set_option maxRecDepth 100000
theorem RdAt.other {w w':World} {R B j:Nat} {v:Value} {c:Cur} {l:List Tm} (h:RdAt w R B v c l) (hb:w.grownBy w' (some j)) (hj:R < j) (hne:v.ownBlock ≠ some j):RdAt w' R B v c l:=by
 have hlt:=h.lt
 have hR:=h.lt'
 refine ⟨h.cur.upto hb.size (fun i hi => hb.block i (by omega) (by simp; omega)),(hb.block R hR (by simp; omega)).trans h.blk,⟨h.own.1,?_⟩,h.lt,h.few,h.small⟩
 rcases h.own.2 with h' | ⟨g,cap,cur,h1,h2,h3,h4⟩
 ·exact .inl h'
 ·refine .inr ⟨g,cap,cur,h1,h2,(hb.block g (Array.getElem?_eq_some_iff.1 h3).1 ?_).trans h3,h4⟩
  intro e
  refine hne ?_
  rw [h1]
  exact e
theorem but_five {a b:World} {B k:Nat} (h:a.grownBy b (some B)) (hk:a.heap.size ≤ k) (u0 u1 u2 u3 u4:Value) :
 a.grownBy (((((b.setCell ⟨k,0,none⟩ u0).setCell ⟨k,1,none⟩ u1).setCell ⟨k,2,none⟩ u2).setCell ⟨k,3,none⟩ u3).setCell ⟨k,4,none⟩ u4) (some B) :=
 but_set_new (but_set_new (but_set_new (but_set_new (but_set_new h hk _ _) hk _ _) hk _ _) hk _ _) hk _ _
theorem but_five' (b:World) (k:Nat) (u0 u1 u2 u3 u4:Value) :
 b.grownBy (((((b.setCell ⟨k,0,none⟩ u0).setCell ⟨k,1,none⟩ u1).setCell ⟨k,2,none⟩ u2).setCell ⟨k,3,none⟩ u3).setCell ⟨k,4,none⟩ u4) (some k) :=
 but_set (but_set (but_set (but_set (but_set (but_refl _ _) _ _) _ _) _ _) _ _) _ _
set_option maxHeartbeats 4000000 in
theorem add_at (R B:Nat) (v:Value) (c:Cur) (l:List Tm) (t:Tm) (w:World) (h:RdAt w R B v c l) (ht:t.s.size ≤ 9223372036854775807) :
 Calls Tryz.prog 204 #[.pointer (some ⟨R,0,none⟩),.agg #[.int .i64 t.op,.int .i64 t.n,.string t.s]] w (RetRd w R B v c (ins l l.length t)):=by
 obtain ⟨A,cp,rfl⟩:=own_shape h.own
 obtain ⟨n,hn⟩:∃ n,n = l.length:=⟨_,rfl⟩
 obtain ⟨r0,r1⟩:=cells_2 (h.alloc (tmO t)).blk
 obtain ⟨b0,b1,b2⟩:=cells_3 (heap_alloc_new w (tmO t))
 have HINS:=Lib.hid (insert_at R B _ c l n t _ (h.alloc (tmO t)).drew (by omega) ht)
 rw [← hn] at r1 HINS ⊢
 clear h hn ht
 go_enter Tryz.func204,Tryz.ntmps204
 go_wp2_with fail
 go_region_law (go_simp; go_at_call 197; (with_reducible refine HINS.out.mono ?_); rintro e x ⟨v',rfl,hR',hH'⟩; have HE:=Lib.hid (And.intro hR' hH'); clear hR' hH')
 all_goals
  go_wp2_with fail
  go_end0
  exact ⟨_,rfl,HE.out.1,(Hold.of_below _ ((Below.refl _ _).alloc (Nat.le_refl _) _).drew).trans HE.out.2⟩
abbrev sgZO:Obj:=.cells #[.string ⟨#[]⟩,.int .i64 0,.int .i64 0,.int .i64 0,.int .i64 0] 233
abbrev tkO (t:Tk):Obj:=.cells #[.int .i64 t.k,.string t.t,.int .i64 t.l,.int .i64 t.c] 84
def RetSg (W:World) (R B:Nat) (v:Value) (c:Cur) (l:List Tm) (o:Option Sg) (e:Ending) (w':World):Prop :=
 ∃ s b d,e = .returned (.tuple #[sgA s,.bool b]) ∧ (match o with | none => s = sgZ ∧ b = false ∧ d = c | some y => s = y ∧ b = true ∧ d = on c) ∧ RdAt w' R B v d l ∧ W.grownBy w' (some B)
theorem look_self {y:Sg} (h:y ∈ sgs):ExprSpec.look y.t = some y:=by
 unfold sgs at h
 simp only [List.mem_cons,List.not_mem_nil,or_false] at h
 rcases h with rfl | rfl | rfl | rfl | rfl | rfl | rfl | rfl | rfl | rfl | rfl <;> rfl
def Bt (t:ByteArray) (lev k:Int) (y:Sg):Prop:=y.t = t ∧ y.left ≤ lev ∧ k ≤ y.lev
def BtRel (W:World) (t:ByteArray) (lev k:Int) (i:Value) (wr:World):Prop:=∃ j:Nat,j ≤ 11 ∧ i = .int .i64 j ∧ (∀ y ∈ sgs.take j,¬ Bt t lev k y) ∧ Below W.heap.size W wr
theorem bt_next {t:ByteArray} {lev k:Int} {j:Nat} {s:Sg} (h:∀ y ∈ sgs.take j,¬ Bt t lev k y) (hs:sgs[j]? = some s) (hne:¬ Bt t lev k s):∀ y ∈ sgs.take (j + 1),¬ Bt t lev k y:=by
 intro y hy
 rw [take_next hs,List.mem_append,List.mem_singleton] at hy
 rcases hy with hy | rfl
 ·exact h y hy
 ·exact hne
theorem bt_none {c:Cur} {lev k:Int} (h:∀ y ∈ sgs.take 11,¬ Bt (next c).t lev k y):sgn c lev k = none:=sgn_none fun s hs => by
 obtain ⟨h1,h2,h3,h4,hm⟩:=sgn_some hs
 exact h s hm ⟨(look_mem h1).2,h3,h4⟩
theorem bt_hit {c:Cur} {lev k:Int} {s:Sg} {j:Nat} (hs:sgs[j]? = some s) (hk:(next c).k = 3 ∨ (next c).k = 1) (h:Bt (next c).t lev k s):sgn c lev k = some s:=by
 refine sgn_mk ?_ hk h.2.1 h.2.2
 rw [← h.1]
 exact look_self (List.mem_of_getElem? hs)
theorem tk_block {w x:World} {p q:Obj} (hb:Below (w.alloc p).heap.size (w.alloc p) x):(x.alloc q).heap[w.heap.size]? = some p ∧ (x.alloc q).heap[x.heap.size]? = some q ∧ w.heap.size < x.heap.size ∧ Below w.heap.size w (x.alloc q):=by
 obtain ⟨h1,h2,h3⟩:=one_block hb
 exact ⟨(heap_alloc_old _ _ h3).trans h1,heap_alloc_new _ _,h3,h2.alloc h2.size _⟩
theorem bt_after {w wr x3:World} {R B K2:Nat} {v:Value} {c:Cur} {l:List Tm} {s:Sg} {o1:Array Value} {o2:Obj} {T1:TypeId} (h:RdAt w R B v c l) (hb:Below w.heap.size w wr)
 (h3:((wr.alloc (sgO s)).drew).grownBy x3 (some B)) (hc:CurAt x3 B (on c)) (h2:(wr.alloc (sgO s)).heap[K2]? = some o2) (h1:(wr.alloc (sgO s)).heap[w.heap.size]? = some (.cells o1 T1 (0,0)))
 (hz:w.heap.size < K2) (hz2:K2 + 1 ≤ wr.heap.size) :
 x3.heap[w.heap.size]? = some (.cells o1 T1 (0,0)) ∧ x3.heap[wr.heap.size]? = some (sgO s) ∧ x3.heap[K2]? = some o2 ∧ RdAt x3 R B v (on c) l ∧ v.ownBlock ≠ some w.heap.size ∧ w.grownBy x3 (some B):=by
 have hR:=h.lt'
 have hB:=h.lt
 have hz3:(wr.alloc (sgO s)).drew.heap.size = wr.heap.size + 1:=World.size_alloc _ _
 have hr:RdAt (wr.alloc (sgO s)).drew R B v c l:=((h.keep hb).alloc _).drew
 refine ⟨(h3.block _ (by rw [hz3]; omega) (by simp; omega)).trans h1,(h3.block _ (by rw [hz3]; omega) (by simp; omega)).trans (heap_alloc_new _ _),(h3.block _ (by rw [hz3]; omega) (by simp; omega)).trans h2,hr.but h3 hc,(h.apart (Nat.le_refl _)).2.2,but_trans (but_drew (but_alloc (but_below hb) _)) h3⟩
set_option maxHeartbeats 8000000 in
theorem between_at (R B:Nat) (v:Value) (c:Cur) (l:List Tm) (lev k:Int) (w:World) (hs:SignsIn w) (h:RdAt w R B v c l) :
 Calls Tryz.prog 196 #[.pointer (some ⟨R,0,none⟩),.int .i64 lev,.int .i64 k] w (RetSg w R B v c l (sgn c lev k)):=by
 have HN:=Lib.hid (next_at B c _ (h.alloc (sgZO)).cur)
 obtain ⟨r0,r1⟩:=cells_2 (h.alloc (sgZO)).blk
 obtain ⟨t,ht⟩:∃ t,t = next c:=⟨_,rfl⟩
 rw [← ht] at HN
 have HH:=Lib.hid h
 have HS:=Lib.hid hs
 have HT:=Lib.hid ht
 clear h hs ht
 by_cases hk:t.k = 3 ∨ t.k = 1
 ·have HK:=Lib.hid hk
  have hi:=signs_size
  have hix:=signs_index
  obtain ⟨SV,hSV⟩:∃ SV,SV = signsV:=⟨_,rfl⟩
  have hS:=HS.out
  unfold SignsIn at hS
  rw [← hSV] at hi hix hS
  obtain ⟨T,fr,hg0⟩:=hS
  have HIX:=Lib.hid hix
  have HG0:=Lib.hid hg0
  have HI:=Lib.hid hi
  clear hix hSV hg0 hi HS
  have hkk:((t.k != 3) = false) ∨ ((t.k != 3) = true ∧ (t.k != 1) = false):=by
   by_cases h3:t.k = 3
   ·exact .inl (by simpa using h3)
   ·exact .inr ⟨by simpa using h3,by simpa using hk.resolve_left h3⟩
  clear hk
  rcases hkk with e3 | ⟨e3,e1⟩
  all_goals
   go_enter Tryz.func196,Tryz.ntmps196
   go_wp2_with (go_at_call 87; (with_reducible refine HN.out.mono ?_))
   rintro e x2 ⟨rfl,hb2⟩
   obtain ⟨k1,k2,hz,hB⟩:=tk_block (q:=tkO t) hb2
   obtain ⟨t0,t1,t2,t3⟩:=cells_4 k2
   have hg:=(hB.block _ (Array.getElem?_eq_some_iff.1 HG0.out).1).trans HG0.out
   have hi:=HI.out
   have HK1:=Lib.hid k1
   have HK2:=Lib.hid k2
   have HB:=Lib.hid hB
   have HZ:=Lib.hid hz
   clear hb2 k1 k2 hB r0 r1
   go_wp2_with (refine wpList_load_row rfl 241 _ rfl 2 rfl T SV fr _ hg Tryz.underlying241 rfl hi ?_)
   clear hg hi t0 t1 t2 t3 hz
   go_loopw [10,26] (fun _ i wr => BtRel (x2.alloc (tkO t)) t.t lev k i wr) (fun _ i _ => 11 - (intOf i).toNat)
   case atStart => exact ⟨0,by omega,rfl,by simp,Below.refl _ _⟩
   case round =>
    obtain ⟨j,hj,rfl,hno,hbw⟩:=hrel
    have HNO:=Lib.hid hno
    have HBW:=Lib.hid hbw
    have hzw:=hbw.size
    rw [World.size_alloc] at hzw
    have hz:=HZ.out
    have hB2:=below_two' HB.out hbw
    have kt:=block_on HK2.out hbw
    have ks:=block_on HK1.out hbw
    clear hno hbw
    by_cases hlt:j < 11
    ·obtain ⟨s,hs⟩:∃ s,sgs[j]? = some s:=get_some (by rw [sgs_len]; exact hlt)
     have hx:=HIX.out j s hs
     have HSJ:=Lib.hid hs
     have kt':=(heap_alloc_old wr (sgO s) (show x2.heap.size < wr.heap.size by omega)).trans kt
     have ks':=(heap_alloc_old wr (sgO s) (show w.heap.size < wr.heap.size by omega)).trans ks
     have kr':=((HH.out.keep hB2).alloc (sgO s)).blk
     obtain ⟨t0,t1,t2,t3⟩:=cells_4 kt'
     obtain ⟨r0,r1⟩:=cells_2 kr'
     have HKT:=Lib.hid kt'
     have HKS:=Lib.hid ks'
     have HB2:=Lib.hid hB2
     have HZW:=Lib.hid (And.intro hzw hz)
     clear hs kt ks kt' ks' kr' hB2 hzw hz
     by_cases h1:s.t = t.t
     ·have e4:(s.t.toList == t.t.toList) = true:=by rw [h1]; simp
      have H1:=Lib.hid h1
      clear h1
      by_cases h2:s.left ≤ lev
      ·by_cases h3:k ≤ s.lev
       ·have hit:=bt_hit (c:=c) (lev:=lev) (k:=k) HSJ.out (by rw [← HT.out]; exact HK.out) ⟨by rw [← HT.out]; exact H1.out,h2,h3⟩
        have HIT:=Lib.hid hit
        have h0:=sgn_good hit
        have HTK:=Lib.hid (take_at B c t.k t.t (wr.alloc (sgO s)).drew ((HH.out.keep HB2.out).alloc (sgO s)).drew.cur)
        have hib:isB c t.k t.t = true:=isB_yes h0 (by rw [← HT.out]) (by rw [← HT.out])
        have htk:take c t.k t.t = on c:=by unfold take; rw [if_pos hib]
        rw [hib,htk] at HTK
        have HXF:Hid (∀ x3:World,((wr.alloc (sgO s)).drew).grownBy x3 (some B) → CurAt x3 B (on c) → Hid (x3.heap[w.heap.size]? = some sgZO ∧ x3.heap[wr.heap.size]? = some (sgO s) ∧ x3.heap[x2.heap.size]? = some (tkO t) ∧ RdAt x3 R B v (on c) l ∧ v.ownBlock ≠ some w.heap.size ∧ w.grownBy x3 (some B))) :=
         Lib.hid (fun x3 h3 hc => Lib.hid (bt_after HH.out HB2.out h3 hc HKT.out HKS.out HZW.out.2 HZW.out.1))
        obtain ⟨s0,s1,s2,s3,s4⟩:=cells_5 (heap_alloc_new wr (sgO s))
        clear hit h0 hib htk
        go_wp2_with fail
        go_region_law (go_simp; go_at_call 52; (with_reducible refine HTK.out.mono ?_); rintro e x3 ⟨rfl,hC3,hb3⟩; have HE:=Lib.hid (And.intro hC3 hb3); clear hC3 hb3; have HX:=HXF.out _ HE.out.2 HE.out.1; obtain ⟨p0,p1,p2,p3,p4⟩:=cells_5 HX.out.1; obtain ⟨f0,f1,f2,f3,f4⟩:=free_5 HX.out.1; obtain ⟨u0,u1,u2,u3,u4⟩:=cells_5 HX.out.2.1; obtain ⟨g0,g1,g2,g3⟩:=cells_4 HX.out.2.2.1; obtain ⟨y0,y1⟩:=cells_2 HX.out.2.2.2.1.blk)
        all_goals
         go_wp2_with fail
         obtain ⟨q0,q1,q2,q3,q4⟩:=store_five (blk_of HX.out.1 (n:=5) rfl) (.string s.t) (.int .i64 s.op) (.int .i64 s.lev) (.int .i64 s.left) (.int .i64 s.right)
         refine bodyPost_ret (v:=.tuple #[sgA s,.bool true]) (by simp [results,Tryz.results196,go_sem,q0,q1,q2,q3,q4]) rfl ?_
         rw [HIT.out]
         exact ⟨s,true,on c,rfl,⟨rfl,rfl,rfl⟩,HX.out.2.2.2.1.other (but_five' _ _ _ _ _ _ _) (by have:=HH.out.lt'; omega) HX.out.2.2.2.2.1,but_five HX.out.2.2.2.2.2 (Nat.le_refl _) _ _ _ _ _⟩
       ·have e6:decide (k ≤ s.lev) = false:=decide_eq_false h3
        have HNX:=Lib.hid (bt_next HNO.out HSJ.out (fun h => h3 h.2.2))
        go_wp2_with fail
        go_roundw
        case rel => exact ⟨j + 1,hlt,by simp,HNX.out,HBW.out.alloc HBW.out.size _⟩
        case measure => simp [intOf]; omega
      ·have e5:decide (s.left ≤ lev) = false:=decide_eq_false h2
       have HNX:=Lib.hid (bt_next HNO.out HSJ.out (fun h => h2 h.2.1))
       go_wp2_with fail
       go_roundw
       case rel => exact ⟨j + 1,hlt,by simp,HNX.out,HBW.out.alloc HBW.out.size _⟩
       case measure => simp [intOf]; omega
     ·have e4:(s.t.toList == t.t.toList) = false:=(Lib.bytes_beq_false_iff _ _).2 h1
      have HNX:=Lib.hid (bt_next HNO.out HSJ.out (fun h => h1 h.1))
      go_wp2_with fail
      go_roundw
      case rel => exact ⟨j + 1,hlt,by simp,HNX.out,HBW.out.alloc HBW.out.size _⟩
      case measure => simp [intOf]; omega
    ·obtain rfl:j = 11:=by omega
     have HIT:=Lib.hid (bt_none (c:=c) (lev:=lev) (k:=k) (by rw [← HT.out]; exact HNO.out))
     obtain ⟨f0,f1,f2,f3,f4⟩:=free_5 ks
     obtain ⟨d0,d1,d2,d3,d4⟩:=cells_5 ks
     have HK3:=Lib.hid (blk_of ks (n:=5) rfl)
     have HB2:=Lib.hid hB2
     clear hB2 ks kt
     go_wp2_with fail
     obtain ⟨q0,q1,q2,q3,q4⟩:=store_five HK3.out (.string ⟨#[]⟩) (.int .i64 0) (.int .i64 0) (.int .i64 0) (.int .i64 0)
     refine bodyPost_ret (v:=.tuple #[sgA sgZ,.bool false]) (by simp [results,Tryz.results196,go_sem,q0,q1,q2,q3,q4,sgZ]) rfl ?_
     rw [HIT.out]
     exact ⟨sgZ,false,c,rfl,⟨rfl,rfl,rfl⟩,(HH.out.keep HB2.out).other (but_five' _ _ _ _ _ _ _) (by have:=HH.out.lt'; omega) (HH.out.apart (Nat.le_refl _)).2.2,but_five (but_below HB2.out) (Nat.le_refl _) _ _ _ _ _⟩
 ·have e3:(t.k != 3) = true:=by simp; omega
  have e1:(t.k != 1) = true:=by simp; omega
  have hno:sgn c lev k = none:=by unfold sgn; rw [← HT.out]; exact if_neg hk
  have HNO:=Lib.hid hno
  clear hk hno
  go_enter Tryz.func196,Tryz.ntmps196
  go_wp2_with (go_at_call 87; (with_reducible refine HN.out.mono ?_))
  rintro e x2 ⟨rfl,hb2⟩
  obtain ⟨k1,k2,hz,hB⟩:=tk_block (q:=tkO t) hb2
  obtain ⟨t0,t1,t2,t3⟩:=cells_4 k2
  obtain ⟨f0,f1,f2,f3,f4⟩:=free_5 k1
  obtain ⟨d0,d1,d2,d3,d4⟩:=cells_5 k1
  have HK3:=Lib.hid (blk_of k1 (n:=5) rfl)
  have HB:=Lib.hid hB
  clear hb2 k1 k2 hB r0 r1 hz
  go_wp2_with fail
  obtain ⟨q0,q1,q2,q3,q4⟩:=store_five HK3.out (.string ⟨#[]⟩) (.int .i64 0) (.int .i64 0) (.int .i64 0) (.int .i64 0)
  refine bodyPost_ret (v:=.tuple #[sgA sgZ,.bool false]) (by simp [results,Tryz.results196,go_sem,q0,q1,q2,q3,q4,sgZ]) rfl ?_
  rw [HNO.out]
  exact ⟨sgZ,false,c,rfl,⟨rfl,rfl,rfl⟩,(HH.out.keep HB.out).other (but_five' _ _ _ _ _ _ _) (by have:=HH.out.lt'; omega) (HH.out.apart (Nat.le_refl _)).2.2,but_five (but_below HB.out) (Nat.le_refl _) _ _ _ _ _⟩
end Go.Proofs.YtjfghaohogcfbaaGreatDoor