/- TransScan, PrintSpec, joined. -/
import Derived.Test.YtjfghaohogcfbaaGreatDoorMFormatTwice10
import Derived.Test.YtjfghaohogcfbaaGreatDoorMFormatTwice17
import Derived.Test.YtjfghaohogcfbaaGreatDoorMFormatTwice11
namespace Go.Proofs.YtjfghaohogcfbaaGreatDoor
namespace TransSpec
open CurSpec TermSpec EvalSpec NamesSpec ExprSpec ScanSpec ActSpec
def tkH (x:Tt):List Tx:=if x.ev.size = 0 then [(1,[97,117,116,111])] else [(1,[111,110]),(1,T x.ev)]
def tkG:Option Ex → List Tx
 | none => []
 | some e => (3,[91]) :: (tk e ++ [(3,[93])])
def tkC (ts:List Ta):List Tx:=if ts = [] then [] else (3,[47]) :: tkL ts
def tkD (s:ByteArray):List Tx:=if s.size = 0 then [] else [(3,[45,62]),(1,T s)]
def tkT (x:Tt):List Tx:=tkH x ++ (tkG x.g ++ (tkC x.ts ++ (tkD x.tg ++ [(3,[59])])))
def Pc (s:List UInt8) (ts:List Tx):Prop:=∀ (l:List UInt8) (i:Nat) (r:List UInt8),l.drop i = s ++ r → Stop r → Sc l (gap l i) ts (gap l (i + s.length))
def Stops (s:List UInt8):Prop:=∀ r,Stop r → Stop (s ++ r)
theorem pc_app {a b:List UInt8} {ta tb:List Tx} (ha:Pc a ta) (hb:Pc b tb) (hs:Stops b):Pc (a ++ b) (ta ++ tb):=by
 intro l i r hd hr
 have h0:l.drop i = a ++ (b ++ r):=by rw [hd]; simp
 have s0:=ha l i _ h0 (hs r hr)
 have s1:=hb l _ r (drop_past h0) hr
 have:=sc_app s0 s1
 rwa [show i + a.length + b.length = i + (a ++ b).length by simp; omega] at this
theorem pc_nil:Pc [] []:=fun _ _ _ _ _ => rfl
theorem stops_nil:Stops []:=fun _ h => h
theorem stops_of {a:UInt8} {s:List UInt8} (h:isWord a = false ∧ isNum a = false ∧ clsB a ≠ 1 ∧ clsB a ≠ 3):Stops (a :: s):=fun _ _ => stop_of h _
theorem stops_app {a b:List UInt8} (ha:Stops a) (hb:Stops b):Stops (a ++ b):=fun r h => by rw [List.append_assoc]; exact ha _ (hb r h)
def Sl (s:List UInt8) (ts:List Tx):Prop:=∀ (l:List UInt8) (i:Nat) (r:List UInt8),l.drop i = s ++ r → Stop r → Sc l i ts (gap l (i + s.length))
theorem pc_here {s:List UInt8} {ts:List Tx} (hf:Fst s) (h:Sl s ts):Pc s ts:=by
 intro l i r hd hr
 obtain ⟨c,q,hc,hsol⟩:=hf
 rw [gap_here (c:=c) (r:=q ++ r) (by rw [hd,hc]; rfl) hsol]
 exact h l i r hd hr
theorem pc_blank {s:List UInt8} {ts:List Tx} (hf:Fst s) (h:Sl s ts):Pc (32 :: s) ts:=by
 intro l i r hd hr
 obtain ⟨c,q,hc,hsol⟩:=hf
 rw [gap_one (c:=c) (r:=q ++ r) (by rw [hd,hc]; rfl) hsol]
 have:=h l (i + 1) r (drop_past (s:=[32]) hd) hr
 rwa [show i + 1 + s.length = i + (32 :: s).length by simp; omega] at this
theorem one_bra (r:List UInt8):ScanSpec.one ([91] ++ r) = (3,[(91:UInt8)].length,0):=ExprSpec.one_mark rfl (by decide) (by simp [markLen,marks,List.isPrefixOf])
theorem one_ket (r:List UInt8):ScanSpec.one ([93] ++ r) = (3,[(93:UInt8)].length,0):=ExprSpec.one_mark rfl (by decide) (by simp [markLen,marks,List.isPrefixOf])
theorem one_do (r:List UInt8):ScanSpec.one ([47] ++ r) = (3,[(47:UInt8)].length,0):=ExprSpec.one_mark rfl (by decide) (by simp [markLen,marks,List.isPrefixOf])
theorem one_to (r:List UInt8):ScanSpec.one ([45,62] ++ r) = (3,[(45:UInt8),62].length,0):=ExprSpec.one_mark rfl (by decide) (by simp [markLen,marks,List.isPrefixOf])
theorem one_semi (r:List UInt8):ScanSpec.one ([59] ++ r) = (3,[(59:UInt8)].length,0):=ExprSpec.one_mark rfl (by decide) (by simp [markLen,marks,List.isPrefixOf])
theorem name_fst {s:ByteArray} (h:isName s.data.toList = true):Fst (T s):=by
 obtain ⟨a,q,hs,hca,_⟩:=name_parts h
 exact ⟨a,q,hs,sol_1 a (.inl hca)⟩
theorem sl_word {s:List UInt8} (h:∃ a t,s = a :: t ∧ clsB a = 1 ∧ (a :: t).all isWord = true ∧ (a :: t).length ≤ 12):Sl s [(1,s)]:=fun _ _ _ hd hr => sc_word hd h hr
theorem sl_name {s:ByteArray} (h:isName s.data.toList = true):Sl (T s) [(1,T s)]:=sl_word (name_parts h)
theorem sl_mark {m s:List UInt8} {ts:List Tx} (h0:0 < m.length) (hm:∀ r,ScanSpec.one (m ++ r) = (3,m.length,0)) (h:Pc s ts):Sl (m ++ s) ((3,m) :: ts):=by
 intro l i r hd hr
 have hd':l.drop i = m ++ (s ++ r):=by rw [hd]; simp
 have s0:=sc_one hd' h0 (hm _)
 have s1:=h l _ r (drop_past hd') hr
 have:=sc_app s0 s1
 rwa [show i + m.length + s.length = i + (m ++ s).length by simp; omega] at this
theorem sl_app {a b:List UInt8} {ta tb:List Tx} (ha:Sl a ta) (hb:Pc b tb) (hs:Stops b):Sl (a ++ b) (ta ++ tb):=by
 intro l i r hd hr
 have h0:l.drop i = a ++ (b ++ r):=by rw [hd]; simp
 have s0:=ha l i _ h0 (hs r hr)
 have s1:=hb l _ r (drop_past h0) hr
 have:=sc_app s0 s1
 rwa [show i + a.length + b.length = i + (a ++ b).length by simp; omega] at this
theorem sl_ket:Sl [93] [(3,[93])]:=fun _ _ _ hd _ => sc_one hd (by decide) (one_ket _)
theorem sl_semi:Sl [59] [(3,[59])]:=fun _ _ _ hd _ => sc_one hd (by decide) (one_semi _)
theorem sl_acts {ts:List Ta} (hne:ts ≠ []) (h:∀ t ∈ ts,t.Ok):Sl (putT ts) (tkL ts):=fun _ _ _ hd hr => sc_acts hne h hd hr
theorem okN_name {s:ByteArray} (h:okN s = true) (h0:s.size ≠ 0):isName s.data.toList = true:=by
 unfold okN at h
 rw [Bool.or_eq_true,decide_eq_true_eq] at h
 exact h.resolve_left h0
theorem acts_fst {ts:List Ta} (hne:ts ≠ []) (h:∀ t ∈ ts,t.Ok):Fst (putT ts):=by
 cases ts with
 | nil => exact absurd rfl hne
 | cons t r => exact putT_fst (h t (by simp)) r
theorem putB_T (ts:List Ta):T (putB ts) = putT ts:=by simp [putB,T]
theorem pc_head {x:Tt} (h:x.Ok):Pc (T (headB x)) (tkH x) ∧ Sl (T (headB x)) (tkH x) ∧ Fst (T (headB x)):=by
 unfold headB tkH
 by_cases h0:x.ev.size = 0
 ·rw [if_pos h0,if_pos h0]
  have h1:Sl (T wAuto) [(1,[97,117,116,111])]:=sl_word ⟨97,[117,116,111],rfl,by decide,by decide,by decide⟩
  have h2:Fst (T wAuto):=⟨97,_,rfl,by decide⟩
  exact ⟨pc_here h2 h1,h1,h2⟩
 ·rw [if_neg h0,if_neg h0]
  have hn:=okN_name h.ev h0
  have e:T ((⟨#[111,110,32]⟩:ByteArray) ++ x.ev) = [111,110] ++ (32 :: T x.ev):=by rw [T,bytes_app]; rfl
  rw [e]
  have h1:Sl ([111,110] ++ (32 :: T x.ev)) ([(1,[111,110])] ++ [(1,T x.ev)]):=sl_app (sl_word ⟨111,[110],rfl,by decide,by decide,by decide⟩) (pc_blank (name_fst hn) (sl_name hn)) (stops_of (by decide))
  have h2:Fst ([111,110] ++ (32 :: T x.ev)):=⟨111,_,rfl,by decide⟩
  exact ⟨pc_here h2 h1,h1,h2⟩
theorem pc_guard {g:Option Ex} (h:∀ e,g = some e → ExprSpec.Good e ∧ chk (flat e) = 0):Pc (T (guardB g)) (tkG g) ∧ Stops (T (guardB g)):=by
 cases g with
 | none => exact ⟨pc_nil,stops_nil⟩
 | some e =>
   obtain ⟨hg,-⟩:=h e rfl
   have e1:T (guardB (some e)) = 32 :: ([91] ++ (T (tx e) ++ [93])):=by unfold guardB; rw [T,bytes_app,bytes_app]; simp
   rw [e1]
   have h2:Sl (T (tx e) ++ [93]) (tk e ++ [(3,[93])]):=sl_app (scs_all e hg) (pc_here ⟨93,[],rfl,by decide⟩ sl_ket) (stops_of (by decide))
   exact ⟨pc_blank ⟨91,_,rfl,by decide⟩ (sl_mark (by decide) one_bra (pc_here (fst_app (tx_fst hg)) h2)),stops_of (by decide)⟩
theorem pc_acts {ts:List Ta} (h:∀ t ∈ ts,t.Ok):Pc (T (actsB ts)) (tkC ts) ∧ Stops (T (actsB ts)):=by
 unfold actsB tkC
 by_cases h0:ts = []
 ·rw [if_pos h0,if_pos h0]
  exact ⟨pc_nil,stops_nil⟩
 ·rw [if_neg h0,if_neg h0]
  have e1:T ((⟨#[32,47,32]⟩:ByteArray) ++ putB ts) = 32 :: ([47] ++ (32 :: putT ts)):=by rw [T,bytes_app,← putB_T]; rfl
  rw [e1]
  exact ⟨pc_blank ⟨47,_,rfl,by decide⟩ (sl_mark (by decide) one_do (pc_blank (acts_fst h0 h) (sl_acts h0 h))),stops_of (by decide)⟩
theorem pc_target {s:ByteArray} (h:okN s = true):Pc (T (tgB s)) (tkD s) ∧ Stops (T (tgB s)):=by
 unfold tgB tkD
 by_cases h0:s.size = 0
 ·rw [if_pos h0,if_pos h0]
  exact ⟨pc_nil,stops_nil⟩
 ·rw [if_neg h0,if_neg h0]
  have hn:=okN_name h h0
  have e1:T ((⟨#[32,45,62,32]⟩:ByteArray) ++ s) = 32 :: ([45,62] ++ (32 :: T s)):=by rw [T,bytes_app]; rfl
  rw [e1]
  exact ⟨pc_blank ⟨45,_,rfl,by decide⟩ (sl_mark (by decide) one_to (pc_blank (name_fst hn) (sl_name hn))),stops_of (by decide)⟩
theorem txT_T (x:Tt):T (txT x) = T (headB x) ++ (T (guardB x.g) ++ (T (actsB x.ts) ++ (T (tgB x.tg) ++ [59]))):=by
 unfold txT
 simp only [T,bytes_app,List.append_assoc]
theorem sl_trans {x:Tt} (h:x.Ok):Sl (T (txT x)) (tkT x) ∧ Fst (T (txT x)):=by
 have h1:=pc_head h
 have h2:=pc_guard h.g
 have h3:=pc_acts h.ts
 have h4:=pc_target h.tg
 have h5:Pc [59] [(3,[59])]:=pc_here ⟨59,[],rfl,by decide⟩ sl_semi
 have s5:Stops [59]:=stops_of (by decide)
 rw [txT_T]
 unfold tkT
 exact ⟨sl_app h1.2.1 (pc_app h2.1 (pc_app h3.1 (pc_app h4.1 h5 s5) (stops_app h4.2 s5)) (stops_app h3.2 (stops_app h4.2 s5))) (stops_app h2.2 (stops_app h3.2 (stops_app h4.2 s5))),fst_app h1.2.2⟩
theorem nx_mark {c:Cur} (h0:c.bad = 0) {k:Int} {s:List UInt8} {r:List Tx} (h:Nx c ((k,s) :: r)) {w:ByteArray} (hw:bs s = w):isB c k w = true:=by rw [← hw]; exact nx_isB h0 h
theorem nx_other {c:Cur} {k:Int} {s:List UInt8} {r:List Tx} (h:Nx c ((k,s) :: r)) {j:Int} {w:ByteArray} (hw:bs s ≠ w):¬ isB c j w = true:=isB_ne (by rw [h.2.1]; exact hw)
theorem onN_app (a b:List Tx) (c:Cur):onN (a ++ b).length c = onN b.length (onN a.length c):=by rw [List.length_append,onN_add]
theorem bad_on {c:Cur} (h:c.bad = 0) (n:Nat):(onN n c).bad = 0:=by rw [onN_bad]; exact h
theorem hdT_tk {x:Tt} (h:x.Ok) {c:Cur} {r:List Tx} (h0:c.bad = 0) (hn:Nx c (tkH x ++ r)):hdT c = (onN (tkH x).length c,x.ev) ∧ Nx (onN (tkH x).length c) r:=by
 rw [nx_app] at hn
 obtain ⟨hn,hr⟩:=hn
 refine ⟨?_,hr⟩
 unfold tkH at hn ⊢
 by_cases hz:x.ev.size = 0
 ·rw [if_pos hz] at hn ⊢
  unfold hdT
  rw [if_pos (nx_mark h0 hn (w:=wAuto) rfl),empty_of hz]
  rfl
 ·rw [if_neg hz] at hn ⊢
  have hna:=okN_name h.ev hz
  have h0':(on c).bad = 0:=by rw [(on_bad c).1]; exact h0
  have hw:want c 1 wOn = on c:=if_pos (nx_mark h0 hn rfl)
  obtain ⟨h1,h2,h3,h4,-⟩:=hn
  obtain ⟨hc,hs⟩:=name_yes h0' h3 h4 hna
  unfold hdT
  rw [if_neg (isB_ne (by rw [h2]; decide)),hw,hc,hs]
  rfl
def Behind (c:Cur) (ws:List ByteArray):Prop:=(next c).k = 3 ∧ (next c).t ∈ ws
theorem behind_past {c:Cur} {ws:List ByteArray} (h:Behind c ws) (hw:∀ w ∈ ws,ExprSpec.look w = none):Past c:=past_mark h.1 rfl (hw _ h.2)
theorem behind_no {c:Cur} {ws:List ByteArray} (h:Behind c ws) {k:Int} {w:ByteArray} (hw:∀ v ∈ ws,v ≠ w):¬ isB c k w = true:=isB_ne (hw _ h.2)
theorem behind_tg {s:ByteArray} {c:Cur} (hn:Nx c (tkD s ++ [(3,[59])])):Behind c [wTo,wEnd]:=by
 unfold tkD at hn
 by_cases hz:s.size = 0
 ·rw [if_pos hz] at hn
  exact ⟨hn.1,by rw [hn.2.1]; exact .tail _ (.head _)⟩
 ·rw [if_neg hz] at hn
  exact ⟨hn.1,by rw [hn.2.1]; exact .head _⟩
theorem behind_acts {ts:List Ta} {s:ByteArray} {c:Cur} (hn:Nx c (tkC ts ++ (tkD s ++ [(3,[59])]))):Behind c [wDo,wTo,wEnd]:=by
 unfold tkC at hn
 by_cases hz:ts = []
 ·rw [if_pos hz] at hn
  have:=behind_tg hn
  exact ⟨this.1,List.mem_cons_of_mem _ this.2⟩
 ·rw [if_neg hz] at hn
  exact ⟨hn.1,by rw [hn.2.1]; exact .head _⟩
theorem guT_tk {g:Option Ex} (h:∀ e,g = some e → ExprSpec.Good e ∧ chk (flat e) = 0) {c:Cur} {r:List Tx} (h0:c.bad = 0) (hn:Nx c (tkG g ++ r)) (hr:g = none → ¬ isB c 3 wBra = true):guT c = (onN (tkG g).length c,gFlat g) ∧ Nx (onN (tkG g).length c) r:=by
 rw [nx_app] at hn
 obtain ⟨hn,hrr⟩:=hn
 refine ⟨?_,hrr⟩
 cases g with
 | none =>
   unfold guT
   rw [if_neg (hr rfl)]
   rfl
 | some e =>
   obtain ⟨hg,hk⟩:=h e rfl
   have h0':(on c).bad = 0:=by rw [(on_bad c).1]; exact h0
   have hb:=nx_mark h0 hn (w:=wBra) rfl
   have hn2:Nx (on c) (tk e ++ [(3,[93])]):=hn.2.2
   rw [nx_app] at hn2
   obtain ⟨hn3,hn4⟩:=hn2
   have hR:=rdE_tree hg hk h0' hn3 (past_mark hn4.1 hn4.2.1 (by decide))
   have hw:want (onN (tk e).length (on c)) 3 wKet = on (onN (tk e).length (on c)):=if_pos (nx_mark (bad_on h0' _) hn4 rfl)
   unfold guT
   rw [if_pos hb,hR]
   dsimp only
   rw [hw]
   show _ = (onN ((tk e ++ [(3,[93])]).length + 1) c,flat e)
   rw [show onN ((tk e ++ [((3:Int),[(93:UInt8)])]).length + 1) c = onN (tk e ++ [((3:Int),[(93:UInt8)])]).length (on c) from rfl,onN_app]
   rfl
theorem acT_tk {ts:List Ta} (h:∀ t ∈ ts,t.Ok) (h8:ts.length ≤ 8) {s:ByteArray} {c:Cur} (h0:c.bad = 0) (hn:Nx c (tkC ts ++ (tkD s ++ [(3,[59])]))):acT c = (onN (tkC ts).length c,ts.map Ta.ac) ∧ Nx (onN (tkC ts).length c) (tkD s ++ [(3,[59])]):=by
 have hn':=hn
 rw [nx_app] at hn
 obtain ⟨hn,hrr⟩:=hn
 refine ⟨?_,hrr⟩
 have hB:=behind_tg hrr
 unfold tkC at hn hn' hrr hB ⊢
 by_cases hz:ts = []
 ·rw [if_pos hz] at hn' ⊢
  unfold acT
  rw [if_neg (behind_no (behind_tg hn') (by decide)),hz]
  rfl
 ·rw [if_neg hz] at hn hB ⊢
  have h0':(on c).bad = 0:=by rw [(on_bad c).1]; exact h0
  have hB':Behind (onN (tkL ts).length (on c)) [wTo,wEnd]:=hB
  have hR:=allR_acts (out:=[]) hz h (by simpa using h8) h0' hn.2.2 (behind_past hB' (by decide)) (behind_no hB' (by decide))
  have hRA:readA (on c) = (onN (tkL ts).length (on c),ts.map Ta.ac):=by
   unfold readA
   rw [hR,if_pos (bad_on h0' _)]
   rfl
  unfold acT
  rw [if_pos (nx_mark h0 hn (w:=wDo) rfl),hRA]
  rfl
theorem tgT_tk {s:ByteArray} (h:okN s = true) {c:Cur} (h0:c.bad = 0) (hn:Nx c (tkD s ++ [(3,[59])])):tgT c = (onN (tkD s).length c,s) ∧ Nx (onN (tkD s).length c) [(3,[59])]:=by
 have hn':=hn
 rw [nx_app] at hn
 obtain ⟨hn,hrr⟩:=hn
 refine ⟨?_,hrr⟩
 unfold tkD at hn hn' ⊢
 by_cases hz:s.size = 0
 ·rw [if_pos hz] at hn' ⊢
  unfold tgT
  rw [if_neg (nx_other hn' (by decide)),empty_of hz]
  rfl
 ·rw [if_neg hz] at hn ⊢
  have h0':(on c).bad = 0:=by rw [(on_bad c).1]; exact h0
  obtain ⟨h1,h2,h3,h4,-⟩:=hn
  obtain ⟨hc,hs⟩:=name_yes h0' h3 h4 (okN_name h hz)
  unfold tgT
  rw [if_pos (isB_yes' (s:=wTo) h0 h1 h2),hc,hs]
  rfl
theorem readT_tk {x:Tt} (h:x.Ok) {c:Cur} (h0:c.bad = 0) (hn:Nx c (tkT x)):readT c = (onN (tkT x).length c,x.tr):=by
 unfold tkT at hn
 obtain ⟨e1,n1⟩:=hdT_tk h h0 hn
 have b1:=bad_on h0 (tkH x).length
 obtain ⟨e2,n2⟩:=guT_tk h.g b1 n1 (fun hg => by
  rw [hg] at n1
  exact behind_no (behind_acts (c:=onN (tkH x).length c) n1) (by decide))
 have b2:=bad_on b1 (tkG x.g).length
 obtain ⟨e3,n3⟩:=acT_tk h.ts h.few b2 n2
 have b3:=bad_on b2 (tkC x.ts).length
 obtain ⟨e4,n4⟩:=tgT_tk h.tg b3 n3
 have b4:=bad_on b3 (tkD x.tg).length
 have e5:want (onN (tkD x.tg).length (onN (tkC x.ts).length (onN (tkG x.g).length (onN (tkH x).length c)))) 3 wEnd = on (onN (tkD x.tg).length (onN (tkC x.ts).length (onN (tkG x.g).length (onN (tkH x).length c)))):=if_pos (nx_mark b4 n4 rfl)
 have eC:onN (tkT x).length c = on (onN (tkD x.tg).length (onN (tkC x.ts).length (onN (tkG x.g).length (onN (tkH x).length c)))):=by
  unfold tkT
  rw [onN_app,onN_app,onN_app,onN_app]
  rfl
 have eS:seqT c = (onN (tkT x).length c,x.tr):=by
  unfold seqT
  rw [e1]
  dsimp only
  rw [e2]
  dsimp only
  rw [e3]
  dsimp only
  rw [e4]
  dsimp only
  rw [e5,eC]
  rfl
 unfold readT
 rw [eS]
 dsimp only
 rw [if_pos (bad_on h0 _)]
end TransSpec
end Go.Proofs.YtjfghaohogcfbaaGreatDoor
namespace Go.Proofs.YtjfghaohogcfbaaGreatDoor
namespace PrintSpec
open CurSpec TermSpec EvalSpec NamesSpec ExprSpec ScanSpec ActSpec TransSpec SynSpec
open ShapeSpec (Sh up sf endOf)
def shOf (s:Sx):Sh:=⟨s.kind,s.par⟩
def smallV (n:Int):Bool:=decide (-1000 ≤ n) && decide (n ≤ 1000)
def okV (v:Vr):Bool:=isName v.s.data.toList && (smallV v.lo && (smallV v.hi && smallV v.ini))
def okS (s:Sx):Bool:=isName s.s.data.toList && (decide (chkA s.en = 0) && (decide (chkA s.ex = 0) && (decide (s.tr.length ≤ 16) && s.tr.all fun t => decide (chkT t = 0))))
def mayC (x:Cx):Bool :=
 isName x.s.data.toList && (decide (x.evs.length ≤ 8) && (decide (x.vars.length ≤ 4) && (decide (ShapeSpec.chk (x.sts.map shOf) = 0) && ((x.evs.all fun e => isName e.data.toList) && (x.vars.all okV && x.sts.all okS)))))
structure Ts where
 s:ByteArray
 kind:Int
 par:Int
 en:List Ta
 ex:List Ta
 tr:List Tt
def Ts.sx (t:Ts):Sx:=⟨t.s,t.kind,t.par,t.en.map Ta.ac,t.ex.map Ta.ac,t.tr.map Tt.tr⟩
structure Ts.Ok (t:Ts):Prop where
 nm:isName t.s.data.toList = true
 en:∀ a ∈ t.en,a.Ok
 enf:t.en.length ≤ 8
 ex:∀ a ∈ t.ex,a.Ok
 exf:t.ex.length ≤ 8
 tr:∀ a ∈ t.tr,a.Ok
 trf:t.tr.length ≤ 16
structure Tc where
 s:ByteArray
 evs:List ByteArray
 vars:List Vr
 sts:List Ts
def Tc.cx (c:Tc):Cx:=⟨c.s,c.evs,c.vars,c.sts.map Ts.sx⟩
def Tc.sh (c:Tc):List Sh:=c.sts.map fun t => ⟨t.kind,t.par⟩
structure Tc.Ok (c:Tc):Prop where
 nm:isName c.s.data.toList = true
 evf:c.evs.length ≤ 8
 vaf:c.vars.length ≤ 4
 sh:ShapeSpec.chk c.sh = 0
 evs:∀ e ∈ c.evs,isName e.data.toList = true
 vars:∀ v ∈ c.vars,okV v = true
 sts:∀ t ∈ c.sts,t.Ok
theorem sh_cx (c:Tc):c.cx.sts.map shOf = c.sh:=by
 unfold Tc.cx Tc.sh
 rw [List.map_map]
 rfl
theorem trs_of:∀ {l:List Tr},(∀ t ∈ l,chkT t = 0) → ∃ ts:List Tt,ts.map Tt.tr = l ∧ ∀ t ∈ ts,t.Ok
 | [],_ => ⟨[],rfl,by simp⟩
 | t :: r,h => by
   obtain ⟨x,hx,hok⟩:=tt_of (h t (by simp))
   obtain ⟨ts,hts,hoks⟩:=trs_of (l:=r) fun u hu => h u (by simp [hu])
   refine ⟨x :: ts,by rw [List.map_cons,hx,hts],fun u hu => ?_⟩
   rcases List.mem_cons.1 hu with rfl | hu
   ·exact hok
   ·exact hoks u hu
theorem ts_of {s:Sx} (h:okS s = true):∃ t:Ts,t.sx = s ∧ t.Ok:=by
 obtain ⟨n,k,p,en,ex,tr⟩:=s
 simp only [okS,Bool.and_eq_true,decide_eq_true_eq,List.all_eq_true] at h
 obtain ⟨h1,h2,h3,h4,h5⟩:=h
 obtain ⟨e8,e1⟩:=chkA_ok h2
 obtain ⟨x8,x1⟩:=chkA_ok h3
 obtain ⟨te,rfl,hte⟩:=tas_of e1
 obtain ⟨tx,rfl,htx⟩:=tas_of x1
 obtain ⟨tt,rfl,htt⟩:=trs_of h5
 rw [List.length_map] at e8 x8 h4
 exact ⟨⟨n,k,p,te,tx,tt⟩,rfl,h1,hte,e8,htx,x8,htt,h4⟩
theorem tss_of:∀ {l:List Sx},(∀ s ∈ l,okS s = true) → ∃ ts:List Ts,ts.map Ts.sx = l ∧ ∀ t ∈ ts,t.Ok
 | [],_ => ⟨[],rfl,by simp⟩
 | s :: r,h => by
   obtain ⟨x,hx,hok⟩:=ts_of (h s (by simp))
   obtain ⟨ts,hts,hoks⟩:=tss_of (l:=r) fun u hu => h u (by simp [hu])
   refine ⟨x :: ts,by rw [List.map_cons,hx,hts],fun u hu => ?_⟩
   rcases List.mem_cons.1 hu with rfl | hu
   ·exact hok
   ·exact hoks u hu
theorem tc_of {x:Cx} (h:mayC x = true):∃ c:Tc,c.cx = x ∧ c.Ok:=by
 obtain ⟨s,evs,vars,sts⟩:=x
 simp only [mayC,Bool.and_eq_true,decide_eq_true_eq,List.all_eq_true] at h
 obtain ⟨h1,h2,h3,h4,h5,h6,h7⟩:=h
 obtain ⟨ts,rfl,hts⟩:=tss_of h7
 refine ⟨⟨s,evs,vars,ts⟩,rfl,h1,h2,h3,?_,h5,h6,hts⟩
 rw [← sh_cx]
 exact h4
theorem chkA_map {ts:List Ta} (h:∀ a ∈ ts,a.Ok) (h8:ts.length ≤ 8):chkA (ts.map Ta.ac) = 0:=by
 unfold chkA
 rw [if_neg (by rw [List.length_map]; omega)]
 exact tas_first h
theorem okS_of {t:Ts} (h:t.Ok):okS t.sx = true:=by
 have e1:chkA t.sx.en = 0:=chkA_map h.en h.enf
 have e2:chkA t.sx.ex = 0:=chkA_map h.ex h.exf
 have e3:t.sx.tr.length ≤ 16:=by show (t.tr.map Tt.tr).length ≤ 16; rw [List.length_map]; exact h.trf
 have e4:(t.sx.tr.all fun t => decide (chkT t = 0)) = true:=by
  rw [List.all_eq_true]
  intro x hx
  obtain ⟨a,ha,rfl⟩:=List.mem_map.1 (show x ∈ t.tr.map Tt.tr from hx)
  simpa using tt_chk (h.tr a ha)
 have e5:isName t.sx.s.data.toList = true:=h.nm
 unfold okS
 rw [e4,e5]
 simp [e1,e2,e3]
theorem mayC_of {c:Tc} (h:c.Ok):mayC c.cx = true:=by
 simp only [mayC,Bool.and_eq_true,decide_eq_true_eq,List.all_eq_true]
 refine ⟨h.nm,h.evf,h.vaf,?_,h.evs,h.vars,?_⟩
 ·rw [sh_cx]; exact h.sh
 ·intro s hs
  obtain ⟨t,ht,rfl⟩:=List.mem_map.1 hs
  exact okS_of (h.sts t ht)
def inT (n:Nat):List UInt8:=List.replicate (2 * n) 32
def wordT (k:Int):List UInt8:=if k = 1 then [108,101,97,102] else if k = 2 then [111,114] else [97,110,100]
def bareB (t:Ts):Bool:=t.en.isEmpty && (t.ex.isEmpty && t.tr.isEmpty)
section
variable (sh:List Sh)
def emptyB (l:List Ts) (i:Nat):Bool:=(l[i]?).elim true bareB && decide (ShapeSpec.kids sh i = [])
def lineA (w:List UInt8) (n:Nat) (ts:List Ta):List UInt8:=if ts = [] then [] else inT n ++ (w ++ (32 :: (putT ts ++ [59])) ++ [10])
def lineT (n:Nat) (t:Tt):List UInt8:=inT n ++ (T (txT t) ++ [10])
def insT (n:Nat) (t:Ts):List UInt8:=lineA [101,110,116,101,114] n t.en ++ (lineA [101,120,105,116] n t.ex ++ t.tr.flatMap (lineT n))
def headT (t:Ts):List UInt8:=wordT t.kind ++ (32 :: T t.s)
def stT (l:List Ts) (i:Nat):List UInt8 :=
 (l[i]?).elim [] fun t => if emptyB sh l i then inT ((up sh i).length + 1) ++ ((headT t ++ [59]) ++ [10]) else inT ((up sh i).length + 1) ++ ((headT t ++ [32,123]) ++ [10]) ++ insT ((up sh i).length + 2) t
def oneT (l:List Ts) (i j:Nat):List UInt8:=if endOf sh j = i + 1 ∧ emptyB sh l j = false then inT ((up sh j).length + 1) ++ ([125] ++ [10]) else []
def closT (l:List Ts) (i:Nat):List UInt8:=(sf sh i).flatMap (oneT sh l i)
def stsT (l:List Ts):List UInt8:=(List.range l.length).flatMap fun i => stT sh l i ++ closT sh l i
end
def sepT (l:List ByteArray):List UInt8:=Lib.join (l.map fun s => T s) [44,32]
def evT (l:List ByteArray):List UInt8:=if l = [] then [] else inT 1 ++ (([101,118,101,110,116] ++ (32 :: (sepT l ++ [59]))) ++ [10])
def varT (v:Vr):List UInt8 :=
 inT 1 ++ (([118,97,114] ++ (32 :: (T v.s ++ (32 :: (ValSpec.text v.lo ++ (32 :: ([46,46] ++ (32 :: (ValSpec.text v.hi ++ (32 :: ([61] ++ (32 :: (ValSpec.text v.ini ++ [59]))))))))))))) ++ [10])
def putC (c:Tc):List UInt8:=inT 0 ++ (([99,104,97,114,116] ++ (32 :: (T c.s ++ [32,123]))) ++ [10]) ++ (evT c.evs ++ (c.vars.flatMap varT ++ (stsT c.sh c.sts ++ (inT 0 ++ ([125] ++ [10])))))
def intK (n:Int):List Tx:=(if n < 0 then [(3,[45])] else []) ++ [(2,ValSpec.digs n.natAbs)]
def actK (w:List UInt8) (ts:List Ta):List Tx:=if ts = [] then [] else (1,w) :: (tkL ts ++ [(3,[59])])
def insK (t:Ts):List Tx:=actK [101,110,116,101,114] t.en ++ (actK [101,120,105,116] t.ex ++ t.tr.flatMap tkT)
def headK (t:Ts):List Tx:=[(1,wordT t.kind),(1,T t.s)]
section
variable (sh:List Sh)
def stK (l:List Ts) (i:Nat):List Tx:=(l[i]?).elim [] fun t => if emptyB sh l i then headK t ++ [(3,[59])] else headK t ++ ((3,[123]) :: insK t)
def oneK (l:List Ts) (i j:Nat):List Tx:=if endOf sh j = i + 1 ∧ emptyB sh l j = false then [(3,[125])] else []
def closK (l:List Ts) (i:Nat):List Tx:=(sf sh i).flatMap (oneK sh l i)
def stsK (l:List Ts):List Tx:=(List.range l.length).flatMap fun i => stK sh l i ++ closK sh l i
end
def sepK:List ByteArray → List Tx
 | [] => []
 | [s] => [(1,T s)]
 | s :: u :: r => (1,T s) :: (3,[44]) :: sepK (u :: r)
def evK (l:List ByteArray):List Tx:=if l = [] then [] else (1,[101,118,101,110,116]) :: (sepK l ++ [(3,[59])])
def varK (v:Vr):List Tx:=(1,[118,97,114]) :: (1,T v.s) :: (intK v.lo ++ ((3,[46,46]) :: (intK v.hi ++ ((3,[61]) :: (intK v.ini ++ [(3,[59])])))))
def chK (c:Tc):List Tx:=[(1,[99,104,97,114,116]),(1,T c.s),(3,[123])] ++ (evK c.evs ++ (c.vars.flatMap varK ++ (stsK c.sh c.sts ++ [(3,[125])])))
def Ln (s:List UInt8) (ts:List Tx):Prop:=∀ (l:List UInt8) (i:Nat) (r:List UInt8),l.drop i = s ++ r → Sc l (gap l i) ts (gap l (i + s.length))
theorem ln_nil:Ln [] []:=fun _ _ _ _ => rfl
theorem ln_app {a b:List UInt8} {ta tb:List Tx} (ha:Ln a ta) (hb:Ln b tb):Ln (a ++ b) (ta ++ tb):=by
 intro l i r hd
 have h0:l.drop i = a ++ (b ++ r):=by rw [hd]; simp
 have s0:=ha l i _ h0
 have s1:=hb l _ r (drop_past h0)
 have:=sc_app s0 s1
 rwa [show i + a.length + b.length = i + (a ++ b).length by simp; omega] at this
theorem ln_flat {α:Type} {f:α → List UInt8} {g:α → List Tx}:∀ {L:List α},(∀ x ∈ L,Ln (f x) (g x)) → Ln (L.flatMap f) (L.flatMap g)
 | [],_ => ln_nil
 | x :: r,h => by
   rw [List.flatMap_cons,List.flatMap_cons]
   exact ln_app (h x (by simp)) (ln_flat fun y hy => h y (by simp [hy]))
theorem gap_blanks {l:List UInt8} {c:UInt8} {r:List UInt8} (hs:Sol c):∀ (n i:Nat),l.drop i = List.replicate n 32 ++ c :: r → gap l i = i + n
 | 0,i,h => gap_here h hs
 | n + 1,i,h => by
   rw [List.replicate_succ,List.cons_append] at h
   rw [← gap_blank (l:=l) (i:=i) (by rw [cls_head h]; rfl),gap_blanks hs n (i + 1) (drop_past (s:=[32]) h)]
   omega
theorem ln_line {s:List UInt8} {ts:List Tx} (n:Nat) (hf:Fst s) (h:Sl s ts):Ln (inT n ++ (s ++ [10])) ts:=by
 intro l i r hd
 obtain ⟨c,q,hc,hsol⟩:=hf
 have hlen:(inT n).length = 2 * n:=by simp [inT]
 have h0:l.drop i = inT n ++ (s ++ ([10] ++ r)):=by rw [hd]; simp
 have h1:=drop_past h0
 have h2:=drop_past h1
 rw [gap_blanks hsol (2 * n) i (by rw [h0,hc]; rfl)]
 rw [hlen] at h1 h2
 have h3:=h l _ _ h1 (stop_of (by decide) _)
 rw [← gap_blank (l:=l) (by rw [cls_head (c:=10) (r:=r) h2]; rfl)] at h3
 rwa [show i + 2 * n + s.length + 1 = i + (inT n ++ (s ++ [10])).length by simp [hlen]; omega] at h3
theorem one_open (r:List UInt8):ScanSpec.one ([123] ++ r) = (3,[(123:UInt8)].length,0):=ExprSpec.one_mark rfl (by decide) (by simp [markLen,marks,List.isPrefixOf])
theorem one_shut (r:List UInt8):ScanSpec.one ([125] ++ r) = (3,[(125:UInt8)].length,0):=ExprSpec.one_mark rfl (by decide) (by simp [markLen,marks,List.isPrefixOf])
theorem one_dots (r:List UInt8):ScanSpec.one ([46,46] ++ r) = (3,[(46:UInt8),46].length,0):=ExprSpec.one_mark rfl (by decide) (by simp [markLen,marks,List.isPrefixOf])
theorem one_is (r:List UInt8):ScanSpec.one ([61] ++ 32 :: r) = (3,[(61:UInt8)].length,0):=ExprSpec.one_mark rfl (by decide) (by simp [markLen,marks,List.isPrefixOf])
theorem sl_shut:Sl [125] [(3,[125])]:=fun _ _ _ hd _ => sc_one hd (by decide) (one_shut _)
theorem sl_open:Sl [123] [(3,[123])]:=fun _ _ _ hd _ => sc_one hd (by decide) (one_open _)
theorem digs_parts {n:Nat} (h:n ≤ 1000000):∃ a t,ValSpec.digs n = a :: t ∧ clsB a = 2 ∧ (a :: t).all isNum = true ∧ (a :: t).length ≤ 9:=by
 have:=text_parts (n:=n) ⟨by omega,by omega⟩
 rwa [show ValSpec.text (n:Int) = ValSpec.digs n by unfold ValSpec.text; rw [if_neg (by omega)]; rfl] at this
theorem sl_digs {n:Nat} (h:n ≤ 1000000):Sl (ValSpec.digs n) [(2,ValSpec.digs n)]:=by
 intro l i r hd hr
 obtain ⟨a,t,e,ha,hw,hl⟩:=digs_parts h
 rw [e] at hd ⊢
 exact sc_one hd (by simp) (ExprSpec.one_num ha hw hl hr)
theorem int_fst {n:Int} (h:n.natAbs ≤ 1000000):Fst (ValSpec.text n):=by
 unfold ValSpec.text
 split
 ·exact ⟨45,_,rfl,by decide⟩
 ·obtain ⟨a,t,e,ha,-⟩:=digs_parts h
  exact ⟨a,t,e,sol_1 a (.inr ha)⟩
theorem sl_int {n:Int} (h:n.natAbs ≤ 1000000):Sl (ValSpec.text n) (intK n):=by
 unfold ValSpec.text intK
 split
 ·intro l i r hd hr
  obtain ⟨a,t,e,ha,-⟩:=digs_parts h
  have hsol:=sol_1 a (.inr ha)
  have h0:l.drop i = [45] ++ a :: (t ++ r):=by rw [hd,e]; rfl
  have s0:=sc_one h0 (by decide) (one_neg (t ++ r) hsol.2.2)
  have h1:l.drop (i + [(45:UInt8)].length) = ValSpec.digs n.natAbs ++ r:=by rw [drop_past h0,e]; rfl
  rw [gap_here (c:=a) (r:=t ++ r) (by rw [h1,e]; rfl) hsol] at s0
  have:=sc_app s0 (sl_digs h l _ r h1 hr)
  rwa [show i + [(45:UInt8)].length + (ValSpec.digs n.natAbs).length = i + (45 :: ValSpec.digs n.natAbs).length by simp; omega] at this
 ·exact sl_digs h
theorem small_abs {n:Int} (h:smallV n = true):n.natAbs ≤ 1000000:=by
 simp only [smallV,Bool.and_eq_true,decide_eq_true_eq] at h
 omega
theorem join_two (a b:List UInt8) (r:List (List UInt8)):Lib.join (a :: b :: r) [44,32] = a ++ ([44] ++ (32 :: Lib.join (b :: r) [44,32])):=by
 rw [Lib.join_cons,Lib.join_cons]
 simp [Lib.joinTail]
theorem sl_sep:∀ {l:List ByteArray},l ≠ [] → (∀ e ∈ l,isName e.data.toList = true) → Sl (sepT l) (sepK l) ∧ Fst (sepT l)
 | [],h,_ => absurd rfl h
 | [s],_,h => by
   unfold sepT
   rw [List.map_cons,List.map_nil,Lib.join_one]
   exact ⟨sl_name (h s (by simp)),name_fst (h s (by simp))⟩
 | s :: u :: r,_,h => by
   have hs:=h s (by simp)
   obtain ⟨h1,h2⟩:=sl_sep (l:=u :: r) (by simp) (fun e he => h e (by simp only [List.mem_cons] at he ⊢; exact .inr he))
   unfold sepT at h1 h2 ⊢
   rw [List.map_cons] at h1 h2
   rw [List.map_cons,List.map_cons,join_two]
   refine ⟨?_,fst_app (name_fst hs)⟩
   exact sl_app (sl_name hs) (pc_here ⟨44,_,rfl,by decide⟩ (sl_mark (by decide) one_comma (pc_blank h2 h1))) (stops_of (by decide))
theorem pc_semi:Pc [59] [(3,[59])]:=pc_here ⟨59,[],rfl,by decide⟩ sl_semi
theorem pc_brace:Pc [32,123] [(3,[123])]:=pc_blank ⟨123,[],rfl,by decide⟩ sl_open
theorem fst_word {a:UInt8} {s:List UInt8} (h:Sol a):Fst (a :: s):=⟨a,s,rfl,h⟩
theorem ln_ev {l:List ByteArray} (h:∀ e ∈ l,isName e.data.toList = true):Ln (evT l) (evK l):=by
 unfold evT evK
 by_cases h0:l = []
 ·rw [if_pos h0,if_pos h0]
  exact ln_nil
 ·rw [if_neg h0,if_neg h0]
  obtain ⟨h1,h2⟩:=sl_sep h0 h
  refine ln_line 1 (fst_word (by decide)) ?_
  exact sl_app (sl_word ⟨101,_,rfl,by decide,by decide,by decide⟩) (pc_blank (fst_app h2) (sl_app h1 pc_semi (stops_of (by decide)))) (stops_of (by decide))
theorem sl_is {s:List UInt8} {ts:List Tx} (hf:Fst s) (h:Sl s ts):Sl ([61] ++ (32 :: s)) ((3,[61]) :: ts):=by
 intro l i r hd hr
 have hd':l.drop i = [61] ++ 32 :: (s ++ r):=by rw [hd]; simp
 have s0:=sc_one hd' (by decide) (one_is _)
 have s1:=(pc_blank hf h) l _ r (drop_past (r:=(32 :: s) ++ r) hd') hr
 have:=sc_app s0 s1
 rwa [show i + [(61:UInt8)].length + (32 :: s).length = i + ([61] ++ (32 :: s)).length by simp; omega] at this
theorem ln_var {v:Vr} (h:okV v = true):Ln (varT v) (varK v):=by
 simp only [okV,Bool.and_eq_true] at h
 obtain ⟨h1,h2,h3,h4⟩:=h
 have h2:=small_abs h2
 have h3:=small_abs h3
 have h4:=small_abs h4
 refine ln_line 1 (fst_word (by decide)) ?_
 have k1:Sl (ValSpec.text v.ini ++ [59]) (intK v.ini ++ [(3,[59])]):=sl_app (sl_int h4) pc_semi (stops_of (by decide))
 have k2:=pc_blank (fst_word (a:=61) (by decide)) (sl_is (fst_app (int_fst h4)) k1)
 have k3:=sl_app (sl_int h3) k2 (stops_of (by decide))
 have k4:=pc_blank (fst_word (a:=46) (by decide)) (sl_mark (m:=[46,46]) (by decide) one_dots (pc_blank (fst_app (int_fst h3)) k3))
 have k5:=sl_app (sl_int h2) k4 (stops_of (by decide))
 have k6:=sl_app (sl_name h1) (pc_blank (fst_app (int_fst h2)) k5) (stops_of (by decide))
 exact sl_app (sl_word ⟨118,_,rfl,by decide,by decide,by decide⟩) (pc_blank (fst_app (name_fst h1)) k6) (stops_of (by decide))
theorem wordT_parts (k:Int):∃ a t,wordT k = a :: t ∧ clsB a = 1 ∧ (a :: t).all isWord = true ∧ (a :: t).length ≤ 12:=by
 unfold wordT
 split
 ·exact ⟨_,_,rfl,by decide,by decide,by decide⟩
 ·split
  ·exact ⟨_,_,rfl,by decide,by decide,by decide⟩
  ·exact ⟨_,_,rfl,by decide,by decide,by decide⟩
theorem ln_act (w:List UInt8) (hw:∃ a t,w = a :: t ∧ clsB a = 1 ∧ (a :: t).all isWord = true ∧ (a :: t).length ≤ 12) (n:Nat) {ts:List Ta} (h:∀ t ∈ ts,t.Ok):Ln (lineA w n ts) (actK w ts):=by
 unfold lineA actK
 by_cases h0:ts = []
 ·rw [if_pos h0,if_pos h0]
  exact ln_nil
 ·rw [if_neg h0,if_neg h0]
  have hf:Fst w:=by obtain ⟨a,t,e,ha,-⟩:=hw; exact ⟨a,t,e,sol_1 a (.inl ha)⟩
  exact ln_line n (fst_app hf) (sl_app (sl_word hw) (pc_blank (fst_app (acts_fst h0 h)) (sl_app (sl_acts h0 h) pc_semi (stops_of (by decide)))) (stops_of (by decide)))
theorem ln_ins (n:Nat) {t:Ts} (h:t.Ok):Ln (insT n t) (insK t) :=
 ln_app (ln_act _ ⟨_,_,rfl,by decide,by decide,by decide⟩ n h.en) (ln_app (ln_act _ ⟨_,_,rfl,by decide,by decide,by decide⟩ n h.ex) (ln_flat fun x hx => by
  obtain ⟨h1,h2⟩:=sl_trans (h.tr x hx)
  exact ln_line n h2 h1))
theorem sl_head {t:Ts} (h:isName t.s.data.toList = true):Sl (headT t) (headK t) ∧ Fst (headT t):=by
 have hw:=wordT_parts t.kind
 have hf:Fst (wordT t.kind):=by obtain ⟨a,q,e,ha,-⟩:=hw; exact ⟨a,q,e,sol_1 a (.inl ha)⟩
 exact ⟨sl_app (sl_word hw) (pc_blank (name_fst h) (sl_name h)) (stops_of (by decide)),fst_app hf⟩
theorem ln_state (sh:List Sh) {l:List Ts} (h:∀ t ∈ l,t.Ok) (i:Nat):Ln (stT sh l i) (stK sh l i):=by
 unfold stT stK
 rcases hi:l[i]? with _ | t
 ·exact ln_nil
 ·have ht:=h t (List.mem_of_getElem? hi)
  obtain ⟨h1,h2⟩:=sl_head ht.nm
  simp only [Option.elim]
  split
  ·exact ln_line _ (fst_app h2) (sl_app h1 pc_semi (stops_of (by decide)))
  ·have:=ln_app (ln_line ((up sh i).length + 1) (fst_app h2) (sl_app h1 pc_brace (stops_of (by decide)))) (ln_ins ((up sh i).length + 2) ht)
   rw [List.append_assoc (headK t)] at this
   exact this
theorem ln_one (sh:List Sh) (l:List Ts) (i j:Nat):Ln (oneT sh l i j) (oneK sh l i j):=by
 unfold oneT oneK
 split
 ·exact ln_line _ ⟨125,[],rfl,by decide⟩ sl_shut
 ·exact ln_nil
theorem ln_chart {c:Tc} (h:c.Ok):Ln (putC c) (chK c):=by
 unfold putC chK
 refine ln_app (ln_line 0 (fst_word (by decide)) ?_) (ln_app (ln_ev h.evs) (ln_app (ln_flat fun v hv => ln_var (h.vars v hv)) (ln_app (ln_flat fun i _ => ln_app (ln_state c.sh h.sts i) (ln_flat fun j _ => ln_one c.sh c.sts i j)) (ln_line 0 ⟨125,[],rfl,by decide⟩ sl_shut))))
 exact sl_app (sl_word ⟨99,_,rfl,by decide,by decide,by decide⟩) (pc_blank (fst_app (name_fst h.nm)) (sl_app (sl_name h.nm) pc_brace (stops_of (by decide)))) (stops_of (by decide))
end PrintSpec
end Go.Proofs.YtjfghaohogcfbaaGreatDoor