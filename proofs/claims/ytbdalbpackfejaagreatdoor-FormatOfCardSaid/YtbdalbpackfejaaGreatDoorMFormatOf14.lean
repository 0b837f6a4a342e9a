/- SynTrans, SynState, SynStateW, SynVars, SynRead, joined. -/
import Derived.Test.YtbdalbpackfejaaGreatDoorMFormatOf13
set_option maxHeartbeats 16000000
set_option maxRecDepth 100000
namespace Go.Proofs.YtbdalbpackfejaaGreatDoor
section
open Go.RowKit CurSpec TermSpec EvalSpec ActSpec NamesSpec ExprSpec TransSpec SynSpec
set_option maxRecDepth 100000
theorem Qb4 {α:Type} {T:TypeId} {k:Nat} {cv:α -> List Value} {nest:α -> World -> Prop} {W wr w':World} {B:Nat} {pv:Value} {ps:List α} {gA aA:Option Addr} {gn gc an ac:Nat} {t:Tr} (h:RowB T k cv nest W B wr pv ps)
 (ht:Tms w' (.slice gA gn gc) t.g) (hf:∀ b,(Value.slice gA gn gc).ownBlock=some b->wr.heap.size<=b) (ha:AcsFar wr.heap.size w' (.slice aA an ac) t.acts):Dep w' (fun b=>W.heap.size<=b/\pv.ownBlock≠some b) (tpN ⟨t,gA,gn,gc,aA,an,ac⟩) :=
 (((QgB ht hf).and (acs_dep ha)).imp fun _ hx=>(⟨hx.1,hx.2⟩:TrIn _ gA gn gc aA an ac t)).mono fun b _ hb=>⟨Nat.le_trans h.grown.size hb,fun e=>by have:=(Qs h.own b e).2; omega⟩
def TrRel (W:World) (B:Nat) (F:Cur × List Tr) (gh:Nat) (pv:Value) (wr:World):Prop :=
 ∃ (c:Cur) (ps:List TP),left c<=gh/\Ok c/\CurAt wr B c/\RowB 81 4 tpV (tpN) W B wr pv ps/\SynSpec.Few 16 c (ps.map (·.t))/\loopT qT stT c (ps.map (·.t))=F
theorem Qgv (B:Nat) (c:Cur) (w:World) (hs:SignsIn w) (h:CurAt w B c) (ok:Ok c):Calls Tryz.prog 86 #[.pointer (some ⟨B,0,none⟩)] w (RetD Trs w B (trX c)):=by
 have hB:=h.lt;obtain ⟨i0,hi,hz0,hz1,hz2⟩:=info_parts QfA;have HI:=qh (And.intro hi (And.intro hz0 (And.intro hz1 hz2)));have HSG:=qh (fun W (hW:w.grownBy W (some B))=>Jk hs h hW);obtain ⟨F,hF⟩:∃ F,F=trX c:=⟨_,rfl⟩;rw [<- hF];have HST:Hid (TrRel w B F (left c) (.slice none 0 0) w):=qh ⟨c,[],Nat.le_refl _,ok,h,RowB.nil (Qx _ _) hB,⟨by simp,fun h=>by simp at h⟩,hF.symm⟩;have HBB:=qh hB;clear h ok hF hi hz0 hz1 hz2 hs;go_enter Tryz.func86,Tryz.ntmps86;go_wp2_with fail
 go_loopg [3] (left c) (fun gh pv wr=>TrRel w B F gh pv wr)
 case atStart=>exact HST.o
 case round =>
  obtain ⟨d,ps,hgh,hok,hcur,hrow,hfew,htail⟩:=hrel;have HGH:=qh hgh;have HROW:=qh hrow;have HTAIL:=qh htail;have HCUR:=qh hcur;have HIW:=qh (fun s W b (hW:CurAt W B d) (hb:isB d 1 s=b)=>QcV B d s W hW hb);obtain ⟨pA,pc,rfl⟩:=hrow.shape;obtain ⟨n,hn⟩:∃ n,n=ps.length:=⟨_,rfl⟩;rw [<- hn];rw [<- hn] at HROW
  by_cases hb:qT d=true
  ·have HLS:=qh (Za Z4 (ps.map (·.t)) hb)
   have HFW:=qh (few_T hb hfew);have HT1:=qh (JA Z4 (out:=ps.map (·.t)) hb);have h0:=(Z4.real hb).1
   have h8:n <= 16:=by
    have hl:(ps.map (·.t)).length=n:=by simp [hn]
    rcases Nat.lt_or_ge n (16+1) with h' | h'
    ·omega
    ·exact absurd h0 (hfew.2 (by have:=hfew.1; omega))
   have HOK2:=qh ((Qge d (ps.map (·.t))).ok hok);have HD:Hid (stT d (ps.map (·.t))=((readT (fullO 16 d (ps.map (·.t)))).1,(ps.map (·.t))++[(readT (fullO 16 d (ps.map (·.t)))).2])):=qh rfl;have HOKD:=qh ((Qb0 16 d (ps.map (·.t))).ok hok);have HFU:Hid (fullO 16 d (ps.map (·.t))=if n=16 then fail d 8 else d):=qh (by unfold fullO; rw [show (ps.map (·.t)).length=n by simp [hn]]);obtain ⟨D,hD⟩:∃ D,D=fullO 16 d (ps.map (·.t)):=⟨_,rfl⟩;rw [<- hD] at HD HOKD HFU;have HRV:=qh (fun W (hs:SignsIn W) (hW:CurAt W B D)=>tread_atF B D W hs hW HOKD.o);obtain ⟨⟨c4,v4⟩,h4⟩:∃ q,q=readT D:=⟨_,rfl⟩;rw [<- h4] at HD HRV;rw [HD.o] at HLS HFW HOK2 HT1;have HL1:Hid (ps.length+1<=maxLen):=qh (by unfold maxLen; omega);have HL2:Hid ((ps.length+1)*80<=140737488355328):=qh (by omega);have HFA:=qh (fun W (hW:CurAt W B d)=>Zg B d 8 W hW);have HHB:=qh hb;clear hgh hok hfew htail h0 hD h4
   rcases h1:isB d 1 wOn with _ | _
   ·have HW1:=qh h1
    have HW2:Hid (isB d 1 wAuto=true):=qh (by unfold qT at hb; rw [h1,Bool.false_or] at hb; exact hb);clear h1 hb
    by_cases h8e:n=16
    ·have g1:((n:Int) == 16) = true:=by simp; omega
     have g1':(n==16)=true:=by simp; omega
     have HFD:Hid (D=fail d 8):=qh (by rw [HFU.o,if_pos h8e]);clear h8e h8 hn hrow hcur;go_wp2_with (go_at_call 82; go_fit (HIW.o wOn _ false HCUR.o HW1.o));rintro e x30 ⟨rfl,hb3⟩;have HC3:=qh (HCUR.o.keep hb3);have HR3:=qh (HROW.o.keep hb3);clear hb3;go_wp2_with (go_at_call 82; go_fit (HIW.o wAuto _ true HC3.o HW2.o));rintro e x31 ⟨rfl,hb3⟩;have HC3:=qh (HC3.o.keep hb3);have HR3:=qh (HR3.o.keep hb3);clear hb3;go_wp2_with (go_at_call 47; go_fit (HFA.o _ HC3.o));rintro e x6 ⟨rfl,hc6,hb6⟩;rw [<- HFD.o] at hc6;have HCD:=qh hc6;have HRW:=qh (HR3.o.but hb6);clear hc6 hb6;go_wp2_with (go_at_call 125; go_fit (HRV.o _ (HSG.o _ HRW.o.grown) HCD.o));rintro e x7 ⟨gA,gn,gc,aA,an,ac,rfl,hc7,ht7,hf7,ha7,hb7⟩;have HC7:=qh hc7;have HR7:=qh (HRW.o.but hb7);have HD7:Hid (Dep x7 (fun b=>w.heap.size<=b/\(Value.slice pA n pc).ownBlock≠some b) (tpN ⟨v4,gA,gn,gc,aA,an,ac⟩)):=qh (Qb4 HRW.o ht7 hf7 ha7);clear hc7 hb7 ht7 hf7 ha7;go_wp2_with (at_builtin; refine QE rfl (.tmp 15) (.tmp 18) _ rfl i0 (.agg #[.string ByteArray.empty,.slice none 0 0,.slice none 0 0,.string ByteArray.empty]) 80 Tryz.underlying49 HI.o.1 HI.o.2.1 HI.o.2.2.1 HI.o.2.2.2 rfl (by decide) HR7.o ⟨v4,gA,gn,gc,aA,an,ac⟩ HD7.o rfl rfl rfl (Qcc _) HL1.o HL2.o ?_; intro p2 w2 hrow2 hcur2; have HR8:=qh hrow2; have HC8:=qh (hcur2 _ HC7.o); clear hrow2 hcur2)
     go_roundg (left c4)
     case measure=>have h1:=HLS.o; have h3:=HGH.o; omega
     case rel=>exact ⟨c4,ps++[⟨v4,gA,gn,gc,aA,an,ac⟩],Nat.le_refl _,HOK2.o,HC8.o,HR8.o,by rw [List.map_append]; exact HFW.o,by rw [<- HTAIL.o,HT1.o,List.map_append]; rfl⟩
    ·have g1:((n:Int) == 16) = false:=by simp; omega
     have g1':(n==16)=false:=by simp; omega
     have HFD:Hid (D=d):=qh (by rw [HFU.o,if_neg h8e]);clear h8e h8 hn hrow hcur;go_wp2_with (go_at_call 82; go_fit (HIW.o wOn _ false HCUR.o HW1.o));rintro e x30 ⟨rfl,hb3⟩;have HC3:=qh (HCUR.o.keep hb3);have HR3:=qh (HROW.o.keep hb3);clear hb3;go_wp2_with (go_at_call 82; go_fit (HIW.o wAuto _ true HC3.o HW2.o));rintro e x31 ⟨rfl,hb3⟩;have HC3:=qh (HC3.o.keep hb3);have HR3:=qh (HR3.o.keep hb3);clear hb3;have HCD:=HC3;rw [<- HFD.o] at HCD;have HRW:=HR3;go_wp2_with (go_at_call 125; go_fit (HRV.o _ (HSG.o _ HRW.o.grown) HCD.o));rintro e x7 ⟨gA,gn,gc,aA,an,ac,rfl,hc7,ht7,hf7,ha7,hb7⟩;have HC7:=qh hc7;have HR7:=qh (HRW.o.but hb7);have HD7:Hid (Dep x7 (fun b=>w.heap.size<=b/\(Value.slice pA n pc).ownBlock≠some b) (tpN ⟨v4,gA,gn,gc,aA,an,ac⟩)):=qh (Qb4 HRW.o ht7 hf7 ha7);clear hc7 hb7 ht7 hf7 ha7;go_wp2_with (at_builtin; refine QE rfl (.tmp 15) (.tmp 18) _ rfl i0 (.agg #[.string ByteArray.empty,.slice none 0 0,.slice none 0 0,.string ByteArray.empty]) 80 Tryz.underlying49 HI.o.1 HI.o.2.1 HI.o.2.2.1 HI.o.2.2.2 rfl (by decide) HR7.o ⟨v4,gA,gn,gc,aA,an,ac⟩ HD7.o rfl rfl rfl (Qcc _) HL1.o HL2.o ?_; intro p2 w2 hrow2 hcur2; have HR8:=qh hrow2; have HC8:=qh (hcur2 _ HC7.o); clear hrow2 hcur2)
     go_roundg (left c4)
     case measure=>have h1:=HLS.o; have h3:=HGH.o; omega
     case rel=>exact ⟨c4,ps++[⟨v4,gA,gn,gc,aA,an,ac⟩],Nat.le_refl _,HOK2.o,HC8.o,HR8.o,by rw [List.map_append]; exact HFW.o,by rw [<- HTAIL.o,HT1.o,List.map_append]; rfl⟩
   ·have HW1:=qh h1
    clear h1 hb
    by_cases h8e:n=16
    ·have g1:((n:Int) == 16) = true:=by simp; omega
     have g1':(n==16)=true:=by simp; omega
     have HFD:Hid (D=fail d 8):=qh (by rw [HFU.o,if_pos h8e]);clear h8e h8 hn hrow hcur;go_wp2_with (go_at_call 82; go_fit (HIW.o wOn _ true HCUR.o HW1.o));rintro e x30 ⟨rfl,hb3⟩;have HC3:=qh (HCUR.o.keep hb3);have HR3:=qh (HROW.o.keep hb3);clear hb3;go_wp2_with (go_at_call 47; go_fit (HFA.o _ HC3.o));rintro e x6 ⟨rfl,hc6,hb6⟩;rw [<- HFD.o] at hc6;have HCD:=qh hc6;have HRW:=qh (HR3.o.but hb6);clear hc6 hb6;go_wp2_with (go_at_call 125; go_fit (HRV.o _ (HSG.o _ HRW.o.grown) HCD.o));rintro e x7 ⟨gA,gn,gc,aA,an,ac,rfl,hc7,ht7,hf7,ha7,hb7⟩;have HC7:=qh hc7;have HR7:=qh (HRW.o.but hb7);have HD7:Hid (Dep x7 (fun b=>w.heap.size<=b/\(Value.slice pA n pc).ownBlock≠some b) (tpN ⟨v4,gA,gn,gc,aA,an,ac⟩)):=qh (Qb4 HRW.o ht7 hf7 ha7);clear hc7 hb7 ht7 hf7 ha7;go_wp2_with (at_builtin; refine QE rfl (.tmp 15) (.tmp 18) _ rfl i0 (.agg #[.string ByteArray.empty,.slice none 0 0,.slice none 0 0,.string ByteArray.empty]) 80 Tryz.underlying49 HI.o.1 HI.o.2.1 HI.o.2.2.1 HI.o.2.2.2 rfl (by decide) HR7.o ⟨v4,gA,gn,gc,aA,an,ac⟩ HD7.o rfl rfl rfl (Qcc _) HL1.o HL2.o ?_; intro p2 w2 hrow2 hcur2; have HR8:=qh hrow2; have HC8:=qh (hcur2 _ HC7.o); clear hrow2 hcur2)
     go_roundg (left c4)
     case measure=>have h1:=HLS.o; have h3:=HGH.o; omega
     case rel=>exact ⟨c4,ps++[⟨v4,gA,gn,gc,aA,an,ac⟩],Nat.le_refl _,HOK2.o,HC8.o,HR8.o,by rw [List.map_append]; exact HFW.o,by rw [<- HTAIL.o,HT1.o,List.map_append]; rfl⟩
    ·have g1:((n:Int) == 16) = false:=by simp; omega
     have g1':(n==16)=false:=by simp; omega
     have HFD:Hid (D=d):=qh (by rw [HFU.o,if_neg h8e]);clear h8e h8 hn hrow hcur;go_wp2_with (go_at_call 82; go_fit (HIW.o wOn _ true HCUR.o HW1.o));rintro e x30 ⟨rfl,hb3⟩;have HC3:=qh (HCUR.o.keep hb3);have HR3:=qh (HROW.o.keep hb3);clear hb3;have HCD:=HC3;rw [<- HFD.o] at HCD;have HRW:=HR3;go_wp2_with (go_at_call 125; go_fit (HRV.o _ (HSG.o _ HRW.o.grown) HCD.o));rintro e x7 ⟨gA,gn,gc,aA,an,ac,rfl,hc7,ht7,hf7,ha7,hb7⟩;have HC7:=qh hc7;have HR7:=qh (HRW.o.but hb7);have HD7:Hid (Dep x7 (fun b=>w.heap.size<=b/\(Value.slice pA n pc).ownBlock≠some b) (tpN ⟨v4,gA,gn,gc,aA,an,ac⟩)):=qh (Qb4 HRW.o ht7 hf7 ha7);clear hc7 hb7 ht7 hf7 ha7;go_wp2_with (at_builtin; refine QE rfl (.tmp 15) (.tmp 18) _ rfl i0 (.agg #[.string ByteArray.empty,.slice none 0 0,.slice none 0 0,.string ByteArray.empty]) 80 Tryz.underlying49 HI.o.1 HI.o.2.1 HI.o.2.2.1 HI.o.2.2.2 rfl (by decide) HR7.o ⟨v4,gA,gn,gc,aA,an,ac⟩ HD7.o rfl rfl rfl (Qcc _) HL1.o HL2.o ?_; intro p2 w2 hrow2 hcur2; have HR8:=qh hrow2; have HC8:=qh (hcur2 _ HC7.o); clear hrow2 hcur2)
     go_roundg (left c4)
     case measure=>have h1:=HLS.o; have h3:=HGH.o; omega
     case rel=>exact ⟨c4,ps++[⟨v4,gA,gn,gc,aA,an,ac⟩],Nat.le_refl _,HOK2.o,HC8.o,HR8.o,by rw [List.map_append]; exact HFW.o,by rw [<- HTAIL.o,HT1.o,List.map_append]; rfl⟩
  ·have HFE:Hid (F = (d,ps.map (·.t))):=qh (by rw [<- htail,Jm hb])
   have HHB:=qh hb;clear hgh hok hfew htail hn hrow hcur hb;have HW1:Hid (isB d 1 wOn=false):=qh (by have:=HHB.o; unfold qT at this; simp at this; exact this.1);have HW2:Hid (isB d 1 wAuto=false):=qh (by have:=HHB.o; unfold qT at this; simp at this; exact this.2);go_wp2_with (go_at_call 82; go_fit (HIW.o wOn _ false HCUR.o HW1.o));rintro e x30 ⟨rfl,hb3⟩;have HC3:=qh (HCUR.o.keep hb3);have HR3:=qh (HROW.o.keep hb3);clear hb3;go_wp2_with (go_at_call 82; go_fit (HIW.o wAuto _ false HC3.o HW2.o));rintro e x31 ⟨rfl,hb3⟩;have HC3:=qh (HC3.o.keep hb3);have HR3:=qh (HR3.o.keep hb3);clear hb3;go_wp2_with fail;go_ret;refine ⟨pA,n,pc,rfl,by rw [HFE.o]; exact HC3.o,?_,HR3.o.grown⟩;rw [HFE.o];exact HR3.o.far.imp fun x hx=>⟨ps,rfl,hx.1,hx.2⟩
end
section
open Go.RowKit CurSpec TermSpec EvalSpec ActSpec NamesSpec ExprSpec TransSpec SynSpec
set_option maxRecDepth 100000
theorem QfC:(Tryz.prog.info? 51).map (fun i=>(i.zero,i.size,i.bytes))=some (some (.agg #[.string ByteArray.empty,.int .i64 0,.int .i64 0,.slice none 0 0,.slice none 0 0,.slice none 0 0]),6,104):=by kernel_rfl
structure SP where
 x:Sx
 a3:Option Addr
 n3:Nat
 c3:Nat
 a4:Option Addr
 n4:Nat
 c4:Nat
 a5:Option Addr
 n5:Nat
 c5:Nat
def spV (p:SP):List Value:=[.string p.x.s,.int .i64 p.x.kind,.int .i64 p.x.par,.slice p.a3 p.n3 p.c3,.slice p.a4 p.n4 p.c4,.slice p.a5 p.n5 p.c5]
def spN (p:SP) (w:World):Prop:=Acs w (.slice p.a3 p.n3 p.c3) p.x.en/\Acs w (.slice p.a4 p.n4 p.c4) p.x.ex/\Trs w (.slice p.a5 p.n5 p.c5) p.x.tr
theorem Jg (p:SP):(spV p).length=6:=rfl
theorem QdF (p:SP):∀ u ∈ spV p,u.oneCell' = true:=by
 intro u hu;simp only [spV,List.mem_cons,List.not_mem_nil,or_false] at hu
 rcases hu with rfl | rfl | rfl | rfl | rfl | rfl<;>rfl
abbrev RowP (W:World) (B:Nat) (wr:World) (pv:Value) (ps:List SP):Prop:=RowB 51 6 spV spN W B wr pv ps
def RetSts (W:World) (B:Nat) (ps:List SP) (p:Cur × List Sx) (e:Ending) (w':World):Prop :=
 ∃ A n cp qs,e = .returned (.slice A n cp)/\CurAt w' B p.1/\qs.map (·.x)=p.2/\RowP W B w' (.slice A n cp) (ps++qs)
def StateOk (W:World) (B k:Nat):Prop:=∀ (c:Cur) (ps:List SP) (par:Int) (pA:Option Addr) (pc:Nat) (w:World),CurAt w B c -> Ok c -> RowP W B w (.slice pA ps.length pc) ps -> StartS ps.length c -> (k = 0 -> c.bad ≠ 0) ->
 Calls Tryz.prog 44 #[.pointer (some ⟨B,0,none⟩),.slice pA ps.length pc,.int .i64 par,.int .i64 (13-k)] w (RetSts W B ps (stR k ps.length par c))
theorem stR_body (k n:Nat) (par:Int) (c:Cur) (h:k = 0 -> c.bad ≠ 0):stR k n par c = bodyS (kidsR (stR (k - 1)) (k - 1) n) par c:=by
 cases k with
 | zero =>
   have hd:=((QbS c).trans ((Z9 c par).trans (Qby _))).bad (h rfl);have hk:kidsR (stR (0-1)) (0-1) n (insR (headR c par).1).1=((insR (headR c par).1).1,[]):=Jm fun h'=>hd (Zp h').1
   show bodyS (fun d=>(d,[])) par c=_
   unfold bodyS;rw [hk]
 | succ k => rfl
theorem Qb2 {α:Type} {k:Nat} {f:α -> List Value} (hf:∀ a,(f a).length = k) {l r:List α} {a:α} {j:Nat} {u:Value} (hj:j < k) (hu:(f a)[j]? = some u):((l ++ a :: r).flatMap f)[l.length * k + j]? = some u:=by
 rw [flat_get hf (a:=a) (by simp) hj,hu]
theorem QgO {w:World} {S:Nat -> Prop} (x:Sx) (h:x.en = [] /\ x.ex = [] /\ x.tr = []):Dep w S (spN ⟨x,none,0,0,none,0,0,none,0,0⟩):=by
 obtain ⟨s,k,p,en,ex,tr⟩:=x;obtain ⟨rfl,rfl,rfl⟩:=h;exact Dep.triv fun w=>⟨ZT w,ZT w,Trs.nil w⟩
theorem Qgr {W wr:World} {B n:Nat} {A:Option Addr} {cp:Nat} {ps qs:List SP} {p:SP} (h:RowP W B wr (.slice A n cp) (ps ++ p :: qs)):n = (ps ++ p :: qs).length /\ ∃ g,A = some ⟨g,0,none⟩ /\ n <= cp:=by
 obtain ⟨A',c',heq⟩:=h.shape
 cases heq
 obtain ⟨g,cap,heq,hn⟩:=own_at h.own (by simp; omega)
 cases heq
 exact ⟨rfl,g,rfl,hn⟩
theorem Qbw {W wr:World} {B g n cp:Nat} {ps qs:List SP} {p:SP} (h:RowP W B wr (.slice (some ⟨g,0,none⟩) n cp) (ps ++ p :: qs)) :
 wr.cell? ⟨g,ps.length * 6 + 1,none⟩ = some (.int .i64 p.x.kind) /\ wr.cell? ⟨g,ps.length * 6 + 3,none⟩ = some (.slice p.a3 p.n3 p.c3) /\ wr.cell? ⟨g,ps.length * 6 + 4,none⟩ = some (.slice p.a4 p.n4 p.c4) /\ wr.cell? ⟨g,ps.length * 6 + 5,none⟩ = some (.slice p.a5 p.n5 p.c5) /\
  (∀ j,wr.frozen? ⟨g,j,none⟩=false):=by
 obtain ⟨rfl,-⟩:=Qgr h;obtain ⟨⟨cur,hc,-⟩,hcell⟩:=own_cell h.own;refine ⟨hcell _ _ (Qb2 Jg (by omega) rfl),hcell _ _ (Qb2 Jg (by omega) rfl),hcell _ _ (Qb2 Jg (by omega) rfl),hcell _ _ (Qb2 Jg (by omega) rfl),fun j=>Qf hc j⟩
theorem Qgq {W wr:World} {B g n cp j:Nat} {ps qs:List SP} {p p':SP} {u:Value} (h:RowP W B wr (.slice (some ⟨g,0,none⟩) n cp) (ps ++ p :: qs)) (hj:j < 6) (hu:spV p' = (spV p).set j u)
 (hn:Dep wr (fun b=>W.heap.size<=b/\(Value.slice (some ⟨g,0,none⟩) n cp).ownBlock≠some b) (spN p')):RowP W B (wr.setCell ⟨g,ps.length*6+j,none⟩ u) (.slice (some ⟨g,0,none⟩) n cp) (ps++p'::qs):=by
 obtain ⟨rfl,-⟩:=Qgr h;have hi:(ps++p::qs)[ps.length]?=some p:=by simp
 have h1:=h.set Jg hi hj hu hn;rw [show (ps++p::qs).set ps.length p'=ps++p'::qs by simp] at h1;exact h1
theorem Qc5 {W wr w':World} {B:Nat} {pv:Value} {ps:List SP} {P:World -> Prop} (h:RowP W B wr pv ps) (hp:Dep w' (fun b => wr.heap.size <= b) P):Dep w' (fun b => W.heap.size <= b /\ pv.ownBlock ≠ some b) P :=
 hp.mono fun b _ hb=>⟨Nat.le_trans h.grown.size hb,fun e=>by have:=(Qs h.own b e).2; omega⟩
theorem Qgg {W wr:World} {B:Nat} {pv:Value} {ps qs:List SP} {p:SP} (h:RowP W B wr pv (ps++p::qs)):Dep wr (fun b=>W.heap.size<=b/\pv.ownBlock≠some b) (spN p):=h.dep p (by simp)
end
section
open Go.RowKit CurSpec TermSpec EvalSpec ActSpec NamesSpec ExprSpec TransSpec SynSpec
set_option maxRecDepth 100000
def StRel (W:World) (B k:Nat) (ps:List SP) (p:SP) (F:Cur × List Sx) (gh:Nat) (pv:Value) (wr:World):Prop :=
 ∃ (d:Cur) (qs:List SP),left d <= gh /\ Ok d /\ CurAt wr B d /\ RowP W B wr pv (ps ++ p :: qs) /\ FewS (ps.length + 1) d (qs.map (·.x)) /\ (k = 0 -> d.bad ≠ 0) /\
   (p.x.kind=1->qs=[]/\F=(d,[]))/\(p.x.kind≠1->loopT qS (stS (stR (k-1)) (k-1) ps.length) d (qs.map (·.x))=F)
theorem QeV (W0:World) (B k:Nat) (hk:k <= 12) (hs0:SignsIn W0) {c00:Cur} (hc00:CurAt W0 B c00) (IH:∀ k',k = k' + 1 -> StateOk W0 B k'):StateOk W0 B k:=by
 intro c ps par pA pc w h ok hrow hst hdead;obtain ⟨i0,hi,hz0,hz1,hz2⟩:=info_parts QfC;have HI:=qh (And.intro hi (And.intro hz0 (And.intro hz1 hz2)));have HSG:=qh (fun W (hW:W0.grownBy W (some B))=>Jk hs0 hc00 hW);rw [stR_body k ps.length par c hdead];obtain ⟨n,hn⟩:∃ n,n=ps.length:=⟨_,rfl⟩;have HN:=qh hn;have h60:n<=60:=by rw [hn]; exact hst.1
 obtain ⟨K,hK⟩:∃ K,K=kidsR (stR (k-1)) (k-1) ps.length:=⟨_,rfl⟩;rw [<- hK];have HD:=qh (QhF B c par w h ok);obtain ⟨⟨c1,x1⟩,e1⟩:∃ p,p=headR c par:=⟨_,rfl⟩;have k1:To c c1:=by have:=(QbS c).trans (Z9 c par); rw [<- e1] at this; exact this
 have hx1:x1.en = [] /\ x1.ex = [] /\ x1.tr = [] /\ x1.par = par:=by
  have:x1=(headR c par).2:=by rw [<- e1]
  rw [this];exact ⟨rfl,rfl,rfl,rfl⟩
 rw [<- e1] at HD;have HT1:=qh (fun W (hW:CurAt W B c1)=>take_at B c1 3 wEnd W hW);obtain ⟨P,hP⟩:∃ P,P=bodyS K par c:=⟨_,rfl⟩;rw [<- hP];have hL1:ps.length+1<=maxLen:=by unfold maxLen; omega
 have hL2:(ps.length+1)*104<=140737488355328:=by omega
 have HL1:=qh hL1;have HL2:=qh hL2;have HROW:=qh hrow;have HX1:=qh hx1
 by_cases hb:isB c1 3 wEnd=true
 ·have HP:Hid (P = (on c1,[x1])):=qh (by rw [hP]; unfold bodyS; rw [<- e1]; dsimp only; rw [if_pos hb])
  rw [hb,show take c1 3 wEnd=on c1 by unfold take; rw [if_pos hb]] at HT1;rw [<- hn];rw [<- hn] at HROW;clear hP hb h ok hrow hst hdead e1 k1 hx1 hK hi hz0 hz1 hz2 hL1 hL2 IH hs0 hc00 hn;go_enter Tryz.func44,Tryz.ntmps44;go_wp2_with (go_at_call 84; go_fit HD.o);rintro e x2 ⟨rfl,hc2,hb2⟩;have HC2:=qh hc2;have HR2:=qh (HROW.o.but hb2);clear hc2 hb2;go_wp2_with (at_builtin; refine QE rfl (.tmp 12) (.tmp 16) _ rfl i0 (.agg #[.string ByteArray.empty,.int .i64 0,.int .i64 0,.slice none 0 0,.slice none 0 0,.slice none 0 0]) 104 Tryz.underlying32 HI.o.1 HI.o.2.1 HI.o.2.2.1 HI.o.2.2.2 rfl (by decide) HR2.o ⟨x1,none,0,0,none,0,0,none,0,0⟩ (QgO x1 ⟨HX1.o.1,HX1.o.2.1,HX1.o.2.2.1⟩) rfl rfl rfl (QdF _) HL1.o HL2.o ?_; intro p2 w2 hrow2 hcur2; have HR3:=qh hrow2; have HC3:=qh (hcur2 _ HC2.o); clear hrow2 hcur2);go_wp2_with (go_at_call 46; go_fit (HT1.o _ HC3.o));rintro e x4 ⟨rfl,hc4,hb4⟩;have HC4:=qh hc4;have HR4:=qh (HR3.o.but hb4);clear hc4 hb4;go_wp2_with fail;go_ret;obtain ⟨A,cp,rfl⟩:=HR4.o.shape;exact ⟨A,_,cp,[⟨x1,none,0,0,none,0,0,none,0,0⟩],rfl,by rw [HP.o]; exact HC4.o,by rw [HP.o]; rfl,HR4.o⟩
 ·obtain ⟨c2,e2⟩:∃ d,d = want c1 3 wOpen:=⟨_,rfl⟩
  have k2:To c c2:=e2 ▸ k1.trans (QM _ _ _);obtain ⟨⟨c3,en⟩,e3⟩:∃ p,p=acX c2 wEnter:=⟨_,rfl⟩;have k3:To c c3:=by have:=k2.trans (Qcz c2 wEnter); rw [<- e3] at this; exact this
  obtain ⟨⟨c4,ex⟩,e4⟩:∃ p,p=acX c3 wExit:=⟨_,rfl⟩;have k4:To c c4:=by have:=k3.trans (Qcz c3 wExit); rw [<- e4] at this; exact this
  obtain ⟨⟨c5,tr⟩,e5⟩:∃ p,p=trX c4:=⟨_,rfl⟩;have k5:To c c5:=by have:=k4.trans (to_trX c4); rw [<- e5] at this; exact this
  have hins:insR c1=(c5,en,ex,tr):=by unfold insR; rw [<- e2,<- e3]; dsimp only; rw [<- e4]; dsimp only; rw [<- e5]
  obtain ⟨F,hF⟩:∃ F,F=if x1.kind=1 then (c5,[]) else K c5:=⟨_,rfl⟩
  have HP:Hid (P = (want F.1 3 wShut,⟨x1.s,x1.kind,x1.par,en,ex,tr⟩ :: F.2)):=qh (by
   rw [hP];unfold bodyS;rw [<- e1];dsimp only;rw [if_neg hb,hins,hF]
   by_cases h1:x1.kind=1
   ·rw [if_pos h1,if_pos h1]; rfl
   ·rw [if_neg h1,if_neg h1]; rfl)
  have HWO:=qh (fun W (hW:CurAt W B c1)=>Jl B c1 3 wOpen W hW);have HEN:=qh (fun W (hs:SignsIn W) (hW:CurAt W B c2)=>Qdh B c2 wEnter W hs hW (k2.ok ok));have HEX:=qh (fun W (hs:SignsIn W) (hW:CurAt W B c3)=>Qdh B c3 wExit W hs hW (k3.ok ok));have HTR:=qh (fun W (hs:SignsIn W) (hW:CurAt W B c4)=>Qgv B c4 W hs hW (k4.ok ok));have HWS:=qh (fun W (hW:CurAt W B F.1)=>Jl B F.1 3 wShut W hW);rw [<- e2] at HWO;rw [<- e3] at HEN;rw [<- e4] at HEX;rw [<- e5] at HTR;rw [show isB c1 3 wEnd=false by simpa using hb,show take c1 3 wEnd=c1 by unfold take; rw [if_neg hb]] at HT1;have HOK5:=qh (k5.ok ok);have HDEAD:=qh (fun h0=>k5.bad (hdead h0));have HFEW:=qh (hst.few.to k5);have HKF:Hid (x1.kind≠1->loopT qS (stS (stR (k-1)) (k-1) ps.length) c5 []=F):=qh fun h1=>by rw [hF,if_neg h1,hK]; rfl
  have HKL:Hid (x1.kind=1->F=(c5,[])):=qh fun h1=>by rw [hF,if_pos h1]
  rw [<- hn];rw [<- hn] at HROW;clear hP hb h ok hrow hst hdead e1 k1 hx1 hK hi hz0 hz1 hz2 hL1 hL2 hs0 hc00 hn e2 k2 e3 k3 e4 k4 e5 k5 hins hF;go_enter Tryz.func44,Tryz.ntmps44;go_wp2_with (go_at_call 84; go_fit HD.o);rintro e x2 ⟨rfl,hc2,hb2⟩;have HC2:=qh hc2;have HR2:=qh (HROW.o.but hb2);clear hc2 hb2;go_wp2_with (at_builtin; refine QE rfl (.tmp 12) (.tmp 16) _ rfl i0 (.agg #[.string ByteArray.empty,.int .i64 0,.int .i64 0,.slice none 0 0,.slice none 0 0,.slice none 0 0]) 104 Tryz.underlying32 HI.o.1 HI.o.2.1 HI.o.2.2.1 HI.o.2.2.2 rfl (by decide) HR2.o ⟨x1,none,0,0,none,0,0,none,0,0⟩ (QgO x1 ⟨HX1.o.1,HX1.o.2.1,HX1.o.2.2.1⟩) rfl rfl rfl (QdF _) HL1.o HL2.o ?_; intro p2 w2 hrow2 hcur2; have HR3:=qh hrow2; have HC3:=qh (hcur2 _ HC2.o); clear hrow2 hcur2);go_wp2_with (go_at_call 46; go_fit (HT1.o _ HC3.o));rintro e x4 ⟨rfl,hc4,hb4⟩;have HC4:=qh hc4;have hr4:=HR3.o.but hb4;clear hc4 hb4;obtain ⟨A,cp,rfl⟩:=hr4.shape;obtain ⟨hN,g,rfl,hcap⟩:=Qgr hr4;obtain ⟨N,hNN⟩:∃ N,N=(ps++[(⟨x1,none,0,0,none,0,0,none,0,0⟩:SP)]).length:=⟨_,rfl⟩;rw [<- hNN] at hr4 hcap ⊢;have hNn:N=n+1:=by rw [hNN,HN.o]; simp
  subst hNn;have HR4:=qh hr4;clear hr4 hN hNN;go_wp2_with (go_at_call 21; go_fit (HWO.o _ HC4.o));rintro e x5 ⟨rfl,hc5,hb5⟩;have HC5:=qh hc5;have HR5:=qh (HR4.o.but hb5);clear hc5 hb5;go_wp2_with (go_at_call 85; go_fit (HEN.o _ (HSG.o _ HR5.o.grown) HC5.o));rintro e x6 ⟨A3,n3,c3,rfl,hc6,hf6,hb6⟩;have HC6:=qh hc6;have HR6:=qh (HR5.o.but hb6);have HF6:=qh (Qc5 HR5.o hf6);clear hc6 hf6 hb6;obtain ⟨q1,q3,q4,q5,f0⟩:=Qbw HR6.o;rw [<- HN.o] at q1 q3 q4 q5;have HRS6:=qh (Qgq (p':=⟨⟨x1.s,x1.kind,x1.par,en,x1.ex,x1.tr⟩,A3,n3,c3,none,0,0,none,0,0⟩) (u:=.slice A3 n3 c3) HR6.o (by decide:3<6) rfl (HF6.o.and (Qgg HR6.o) |>.imp fun _ hx=>⟨hx.1,hx.2.2.1,hx.2.2.2⟩));rw [<- HN.o] at HRS6;have HCS6:=qh (HR6.o.setCur (i:=n*6+3) (u:=.slice A3 n3 c3) HC6.o);go_wp2_with (go_at_call 85; go_fit (HEX.o _ (HSG.o _ HRS6.o.grown) HCS6.o));rintro e x7 ⟨A4,n4,c4',rfl,hc7,hf7,hb7⟩;have HC7:=qh hc7;have HR7:=qh (HRS6.o.but hb7);have HF7:=qh (Qc5 HRS6.o hf7);clear hc7 hf7 hb7 q1 q3 q4 q5 f0 HR6 HF6 HC6 HRS6 HCS6;obtain ⟨q1,q3,q4,q5,f0⟩:=Qbw HR7.o;rw [<- HN.o] at q1 q3 q4 q5;have HRS7:=qh (Qgq (p':=⟨⟨x1.s,x1.kind,x1.par,en,ex,x1.tr⟩,A3,n3,c3,A4,n4,c4',none,0,0⟩) (u:=.slice A4 n4 c4') HR7.o (by decide:4<6) rfl (HF7.o.and (Qgg HR7.o) |>.imp fun _ hx=>⟨hx.2.1,hx.1,hx.2.2.2⟩));rw [<- HN.o] at HRS7;have HCS7:=qh (HR7.o.setCur (i:=n*6+4) (u:=.slice A4 n4 c4') HC7.o);go_wp2_with (go_at_call 86; go_fit (HTR.o _ (HSG.o _ HRS7.o.grown) HCS7.o));rintro e x8 ⟨A5,n5,c5',rfl,hc8,hf8,hb8⟩;have HC8:=qh hc8;have HR8:=qh (HRS7.o.but hb8);have HF8:=qh (Qc5 HRS7.o hf8);clear hc8 hf8 hb8 q1 q3 q4 q5 f0 HR7 HF7 HC7 HRS7 HCS7;obtain ⟨q1,q3,q4,q5,f0⟩:=Qbw HR8.o;rw [<- HN.o] at q1 q3 q4 q5;obtain ⟨p,hp⟩:∃ p:SP,p=⟨⟨x1.s,x1.kind,x1.par,en,ex,tr⟩,A3,n3,c3,A4,n4,c4',A5,n5,c5'⟩:=⟨_,rfl⟩;have hrs8:=Qgq (p':=p) (u:=.slice A5 n5 c5') HR8.o (by decide:5<6) (by rw [hp]; rfl) (by rw [hp]; exact (HF8.o.and (Qgg HR8.o) |>.imp fun _ hx=>⟨hx.2.1,hx.2.2.1,hx.1⟩));have hcs8:=HR8.o.setCur (i:=ps.length*6+5) (u:=.slice A5 n5 c5') HC8.o;have HPX:Hid (p.x=⟨x1.s,x1.kind,x1.par,en,ex,tr⟩):=qh (by rw [hp]);have HKD:Hid (p.x.kind=x1.kind):=qh (by rw [hp]);clear hp
  have HST:Hid (StRel W0 B k ps p F (left c5) (.slice (some ⟨g,0,none⟩) (n + 1) cp) (x8.setCell ⟨g,n * 6 + 5,none⟩ (.slice A5 n5 c5'))):=Lib.hid
   ⟨c5,[],Nat.le_refl _,HOK5.o,by rw [HN.o]; exact hcs8,by rw [HN.o]; rw [HN.o] at hrs8; exact hrs8,HFEW.o,HDEAD.o,fun h=>⟨rfl,HKL.o (HKD.o ▸ h)⟩,fun h=>HKF.o (HKD.o ▸ h)⟩
  clear hrs8 hcs8;clear HR8 HF8 HC8 HKF HKL HFEW HDEAD HOK5 HR2 HC2 HR3 HC3 HR4 HC4 HR5 HC5 HD HT1 HWO HEN HEX HTR HROW HX1 HL1 HL2;go_wp2_with fail;clear q1 q3 q4 q5 f0
  go_loopg [1] (left c5) (fun gh pv wr=>StRel W0 B k ps p F gh pv wr)
  case atStart=>exact HST.o
  case round =>
   obtain ⟨d,qs,hgh,hokd,hcur,hrow,hfew,hdead,hleaf,hgo⟩:=hrel;obtain ⟨A,cp2,rfl⟩:=hrow.shape;obtain ⟨hN2,g2,rfl,hcap2⟩:=Qgr hrow;obtain ⟨M,hM⟩:∃ M,M=(ps++p::qs).length:=⟨_,rfl⟩;have HM:Hid (M=n+1+(qs.map (·.x)).length):=qh (by rw [hM,HN.o]; simp; omega);rw [<- hM] at hrow hcap2 ⊢;have hnM:n<M:=by have:=HM.o; omega
   have HROWD:=qh hrow;have HCURD:=qh hcur;obtain ⟨q1,q3,q4,q5,f0⟩:=Qbw hrow;rw [<- HN.o] at q1;clear q3 q4 q5 f0 hN2
   by_cases h1:p.x.kind=1
   ·have HFE:=qh (hleaf h1)
    have g1:(p.x.kind != 1)=false:=by simp [h1]
    have HCF:Hid (CurAt wr B F.1):=qh (by rw [HFE.o.2]; exact hcur);clear hleaf hgo hfew hdead hokd hgh hrow hcur hM;go_wp2_with (go_at_call 21; go_fit (HWS.o _ HCF.o));rintro e y9 ⟨rfl,hc9,hb9⟩;have HC9:=qh hc9;have HR9:=qh (HROWD.o.but hb9);clear hc9 hb9;go_wp2_with fail;go_ret;refine ⟨_,_,_,[p],rfl,by rw [HP.o]; exact HC9.o,?_,?_⟩
    ·rw [HP.o,HFE.o.2,<- HPX.o]; rfl
    ·have:=HR9.o
     rw [HFE.o.1] at this;exact this
   ·have g1:(p.x.kind != 1) = true:=by simp [h1]
    have HNL:=qh h1;have HLO:=qh (hgo h1);have HIS:=qh (fun b (hb:qS d=b)=>Qjd B d wr hcur hb);clear hleaf hgo h1
    by_cases hq:qS d=true
    ·have h0:=(Zp hq).1
     obtain ⟨k',hk'⟩:∃ k',k = k' + 1:=by
      cases k with
      | zero => exact absurd h0 (hdead rfl)
      | succ k' => exact ⟨k',rfl⟩
     have hk1:k-1=k':=by omega
     rw [hk1] at HLO;have hki:(13:Int)-(k:Int)+1=13-(k':Int):=by omega
     obtain ⟨r,hr⟩:∃ r,r=SynSpec.room (M:Int) (13-(k:Int)+1):=⟨_,rfl⟩;have HRM:=qh (fun W=>room_any (M:Int) (13-(k:Int)+1) W (r:=r) hr.symm);have hrr:r=SynSpec.room ((ps.length+1+(qs.map (·.x)).length:Nat):Int) (13-(k':Int)):=by rw [hr,hki,HM.o,HN.o]
     have HFA:=qh (fun W (hW:CurAt W B d)=>Zg B d r W hW);obtain ⟨D,hD⟩:∃ D,D=fail d r:=⟨_,rfl⟩;rw [<- hD] at HFA;have hstp:stS (stR k') k' ps.length d (qs.map (·.x))=((stR k' M n D).1,(qs.map (·.x))++(stR k' M n D).2):=by unfold stS; rw [<- hrr,<- hD,<- HN.o,<- HM.o]
     have hfw:=few_stS (k:=k') (QgQ k') hq hfew;rw [hstp,<- hrr,<- hD,<- HN.o,<- HM.o] at hfw;have HFW:=qh hfw.2;have hstart:=hfw.1;have hLS:=Za (QcL k' ps.length) (qs.map (·.x)) hq;rw [hstp] at hLS;have HT2:=qh (JA (QcL k' ps.length) (out:=qs.map (·.x)) hq);rw [hstp] at HT2
     have hDd:k' = 0 -> D.bad ≠ 0:=fun h0' => by
      rw [hD,hrr];refine QB d ?_;rw [h0'];unfold SynSpec.room
      split<;>decide
     have hDok:Ok D:=hD ▸ hokd.fail r
     have HREC:=qh (fun W (hc:CurAt W B D) (hr:RowP W0 B W (.slice (some ⟨g2,0,none⟩) M cp2) (ps ++ p :: qs)) => by
      have:=IH k' hk' D (ps++p::qs) n (some ⟨g2,0,none⟩) cp2 W hc hDok (hM ▸ hr) (hM ▸ hstart) hDd;rw [<- hM,<- hki] at this;exact this)
     have HTO:=qh (Z6 k' M n D);have HOKR:=qh ((Z6 k' M n D).ok hDok);obtain ⟨⟨c9,R⟩,hR⟩:∃ R,R=stR k' M n D:=⟨_,rfl⟩;rw [<- hR] at HREC HTO HFW HT2 hLS HOKR;have HLS:=qh hLS;have HGH:=qh hgh;have HKK:=qh hk';have HIS2:=qh (HIS.o true hq);clear hgh hokd hfew hdead hrow hcur hM hk1 hki hr hrr hD hstp hfw hstart hLS hDd hDok hR hq h0 hk' HIS IH;go_wp2_with (go_at_call 87; go_fit HIS2.o);rintro e y1 ⟨rfl,hb1⟩;have HC1:=qh (HCURD.o.keep hb1);have HR1:=qh (HROWD.o.keep hb1);clear hb1;go_wp2_with (go_at_call 88; go_fit (HRM.o _));rintro e y2 ⟨rfl,rfl⟩;go_wp2_with (go_at_call 47; go_fit (HFA.o _ HC1.o));rintro e y3 ⟨rfl,hc3,hb3⟩;have HC3:=qh hc3;have HR3:=qh (HR1.o.but hb3);clear hc3 hb3;go_wp2_with (go_at_call 44; go_fit (HREC.o _ HC3.o HR3.o));rintro e y4 ⟨A4,M4,cp4,qs4,rfl,hc4,hm4,hr4⟩;have HC4:=qh hc4;have HR4:=qh hr4;have HM4:=qh hm4;clear hc4 hr4 hm4;go_wp2_with fail
     go_roundg (left c9)
     case measure=>have h1:=HLS.o; have h3:=HGH.o; omega
     case rel =>
      refine ⟨c9,qs++qs4,Nat.le_refl _,HOKR.o,HC4.o,?_,?_,fun h0=>?_,fun h1=>absurd h1 HNL.o,fun _=>?_⟩
      ·have:=HR4.o
       rw [List.append_assoc,List.cons_append] at this;exact this
      ·rw [List.map_append,HM4.o,<- HN.o]
       exact HFW.o
      ·have:=HKK.o
       omega
      ·rw [List.map_append,HM4.o,show k-1=_ from (by have:=HKK.o; omega:k-1=k'),<- HLO.o,HT2.o]
    ·have HFE:Hid (F = (d,qs.map (·.x))):=qh (by rw [<- HLO.o,Jm hq])
     have HIS2:=qh (HIS.o false (by simpa using hq));clear hgh hokd hfew hdead hrow hcur hM hq HIS IH;go_wp2_with (go_at_call 87; go_fit HIS2.o);rintro e y1 ⟨rfl,hb1⟩;have HC1:Hid (CurAt y1 B F.1):=qh (by rw [HFE.o]; exact HCURD.o.keep hb1);have HR1:=qh (HROWD.o.keep hb1);clear hb1;go_wp2_with (go_at_call 21; go_fit (HWS.o _ HC1.o));rintro e y9 ⟨rfl,hc9,hb9⟩;have HC9:=qh hc9;have HR9:=qh (HR1.o.but hb9);clear hc9 hb9;go_wp2_with fail;go_ret;refine ⟨_,_,_,p::qs,rfl,by rw [HP.o]; exact HC9.o,?_,HR9.o⟩;rw [HP.o,HFE.o,<- HPX.o]
     rfl
theorem Qb7 (W0:World) (B:Nat) (hs0:SignsIn W0) {c00:Cur} (hc00:CurAt W0 B c00):∀ k,k <= 12 -> StateOk W0 B k
 | 0,_ => QeV W0 B 0 (by omega) hs0 hc00 (fun k' h => by omega)
 | k + 1,hk => QeV W0 B (k + 1) hk hs0 hc00 (fun k' h => by obtain rfl:k' = k:=(by omega); exact Qb7 W0 B hs0 hc00 k' (by omega))
end
section
open Go.RowKit CurSpec TermSpec EvalSpec ActSpec NamesSpec ExprSpec TransSpec SynSpec
set_option maxRecDepth 100000
def VrRel (W:World) (B:Nat) (F:Cur × List Vr) (gh:Nat) (pv:Value) (wr:World):Prop :=
 ∃ (c:Cur) (ps:List Vr),left c<=gh/\Ok c/\CurAt wr B c/\RowB 46 4 vrV (fun _ _=>True) W B wr pv ps/\SynSpec.Few 4 c (ps)/\loopT qV stV c (ps)=F
theorem QhS (B:Nat) (c:Cur) (w:World) (h:CurAt w B c) (ok:Ok c):Calls Tryz.prog 43 #[.pointer (some ⟨B,0,none⟩)] w (RetD RdV w B (vaR c)):=by
 have hB:=h.lt;obtain ⟨i0,hi,hz0,hz1,hz2⟩:=info_parts inf_var;have HI:=qh (And.intro hi (And.intro hz0 (And.intro hz1 hz2)));obtain ⟨F,hF⟩:∃ F,F=vaR c:=⟨_,rfl⟩;rw [<- hF];have HST:Hid (VrRel w B F (left c) (.slice none 0 0) w):=qh ⟨c,[],Nat.le_refl _,ok,h,RowB.nil (Qx _ _) hB,⟨by simp,fun h=>by simp at h⟩,hF.symm⟩;have HBB:=qh hB;clear h ok hF hi hz0 hz1 hz2;go_enter Tryz.func43,Tryz.ntmps43;go_wp2_with fail
 go_loopg [3] (left c) (fun gh pv wr=>VrRel w B F gh pv wr)
 case atStart=>exact HST.o
 case round =>
  obtain ⟨d,ps,hgh,hok,hcur,hrow,hfew,htail⟩:=hrel;have HGH:=qh hgh;have HROW:=qh hrow;have HTAIL:=qh htail;have HCUR:=qh hcur;have HIW:=qh (fun s W b (hW:CurAt W B d) (hb:isB d 1 s=b)=>QcV B d s W hW hb);obtain ⟨pA,pc,rfl⟩:=hrow.shape;obtain ⟨n,hn⟩:∃ n,n=ps.length:=⟨_,rfl⟩;rw [<- hn];rw [<- hn] at HROW
  by_cases hb:qV d=true
  ·have HLS:=qh (Za QbQ (ps) hb)
   have HFW:=qh (few_V hb hfew);have HT1:=qh (JA QbQ (out:=ps) hb);have h0:=(QbQ.real hb).1
   have h8:n <= 4:=by
    have hl:(ps).length=n:=by simp [hn]
    rcases Nat.lt_or_ge n (4+1) with h' | h'
    ·omega
    ·exact absurd h0 (hfew.2 (by have:=hfew.1; omega))
   have HOK2:=qh ((Qgw d (ps)).ok hok);have HD:Hid (stV d (ps)=((varR (fullO 4 d (ps))).1,(ps)++[(varR (fullO 4 d (ps))).2])):=qh rfl;have HOKD:=qh ((Qb0 4 d (ps)).ok hok);have HFU:Hid (fullO 4 d (ps)=if n=4 then fail d 8 else d):=qh (by unfold fullO; rw [show (ps).length=n by simp [hn]]);obtain ⟨D,hD⟩:∃ D,D=fullO 4 d (ps):=⟨_,rfl⟩;rw [<- hD] at HD HOKD HFU;have HRV:=qh (fun W (hW:CurAt W B D)=>Qjv B D W hW HOKD.o);obtain ⟨⟨c4,v4⟩,h4⟩:∃ q,q=varR D:=⟨_,rfl⟩;rw [<- h4] at HD HRV;rw [HD.o] at HLS HFW HOK2 HT1;have HL1:Hid (ps.length+1<=maxLen):=qh (by unfold maxLen; omega);have HL2:Hid ((ps.length+1)*40<=140737488355328):=qh (by omega);have HFA:=qh (fun W (hW:CurAt W B d)=>Zg B d 8 W hW);have HHB:=qh hb;clear hgh hok hfew htail h0 hD h4;clear hb;have HW1:Hid (isB d 1 wVar=true):=HHB
   by_cases h8e:n=4
   ·have g1:((n:Int) == 4) = true:=by simp; omega
    have g1':(n==4)=true:=by simp; omega
    have HFD:Hid (D=fail d 8):=qh (by rw [HFU.o,if_pos h8e]);clear h8e h8 hn hrow hcur;go_wp2_with (go_at_call 82; go_fit (HIW.o wVar _ true HCUR.o HW1.o));rintro e x30 ⟨rfl,hb3⟩;have HC3:=qh (HCUR.o.keep hb3);have HR3:=qh (HROW.o.keep hb3);clear hb3;go_wp2_with (go_at_call 47; go_fit (HFA.o _ HC3.o));rintro e x6 ⟨rfl,hc6,hb6⟩;rw [<- HFD.o] at hc6;have HCD:=qh hc6;have HRW:=qh (HR3.o.but hb6);clear hc6 hb6;go_wp2_with (go_at_call 83; go_fit (HRV.o _ HCD.o));rintro e x7 ⟨rfl,hc7,hb7⟩;have HC7:=qh hc7;have HR7:=qh (HRW.o.but hb7);clear hc7 hb7;go_wp2_with (at_builtin; refine QE rfl (.tmp 11) (.tmp 14) _ rfl i0 (.agg #[.string ByteArray.empty,.int .i64 0,.int .i64 0,.int .i64 0]) 40 Tryz.underlying31 HI.o.1 HI.o.2.1 HI.o.2.2.1 HI.o.2.2.2 rfl (by decide) HR7.o v4 (Dep.triv fun _=>trivial) rfl rfl rfl (QgI _) HL1.o HL2.o ?_; intro p2 w2 hrow2 hcur2; have HR8:=qh hrow2; have HC8:=qh (hcur2 _ HC7.o); clear hrow2 hcur2)
    go_roundg (left c4)
    case measure=>have h1:=HLS.o; have h3:=HGH.o; omega
    case rel=>exact ⟨c4,ps++[v4],Nat.le_refl _,HOK2.o,HC8.o,HR8.o,HFW.o,by rw [<- HTAIL.o,HT1.o]⟩
   ·have g1:((n:Int) == 4) = false:=by simp; omega
    have g1':(n==4)=false:=by simp; omega
    have HFD:Hid (D=d):=qh (by rw [HFU.o,if_neg h8e]);clear h8e h8 hn hrow hcur;go_wp2_with (go_at_call 82; go_fit (HIW.o wVar _ true HCUR.o HW1.o));rintro e x30 ⟨rfl,hb3⟩;have HC3:=qh (HCUR.o.keep hb3);have HR3:=qh (HROW.o.keep hb3);clear hb3;have HCD:=HC3;rw [<- HFD.o] at HCD;have HRW:=HR3;go_wp2_with (go_at_call 83; go_fit (HRV.o _ HCD.o));rintro e x7 ⟨rfl,hc7,hb7⟩;have HC7:=qh hc7;have HR7:=qh (HRW.o.but hb7);clear hc7 hb7;go_wp2_with (at_builtin; refine QE rfl (.tmp 11) (.tmp 14) _ rfl i0 (.agg #[.string ByteArray.empty,.int .i64 0,.int .i64 0,.int .i64 0]) 40 Tryz.underlying31 HI.o.1 HI.o.2.1 HI.o.2.2.1 HI.o.2.2.2 rfl (by decide) HR7.o v4 (Dep.triv fun _=>trivial) rfl rfl rfl (QgI _) HL1.o HL2.o ?_; intro p2 w2 hrow2 hcur2; have HR8:=qh hrow2; have HC8:=qh (hcur2 _ HC7.o); clear hrow2 hcur2)
    go_roundg (left c4)
    case measure=>have h1:=HLS.o; have h3:=HGH.o; omega
    case rel=>exact ⟨c4,ps++[v4],Nat.le_refl _,HOK2.o,HC8.o,HR8.o,HFW.o,by rw [<- HTAIL.o,HT1.o]⟩
  ·have HFE:Hid (F = (d,ps)):=qh (by rw [<- htail,Jm hb])
   have HHB:=qh hb;clear hgh hok hfew htail hn hrow hcur hb;have HW1:Hid (isB d 1 wVar=false):=qh (by simpa [qV] using HHB.o);go_wp2_with (go_at_call 82; go_fit (HIW.o wVar _ false HCUR.o HW1.o));rintro e x30 ⟨rfl,hb3⟩;have HC3:=qh (HCUR.o.keep hb3);have HR3:=qh (HROW.o.keep hb3);clear hb3;go_wp2_with fail;go_ret;refine ⟨pA,n,pc,rfl,by rw [HFE.o]; exact HC3.o,?_,HR3.o.grown⟩;rw [HFE.o];exact HR3.o.far.imp fun x hx=>hx.1
end
section
open Go.RowKit CurSpec TermSpec EvalSpec ActSpec NamesSpec ExprSpec TransSpec SynSpec
set_option maxRecDepth 100000
def StsP (w:World) (v:Value) (l:List Sx):Prop:=∃ ps:List SP,ps.map (·.x)=l/\Rdk 6 w v ps.length (ps.flatMap spV)/\∀ p∈ps,spN p w
theorem spN_keep {p:SP} {w w':World} (h:spN p w) (hb:Below w.heap.size w w'):spN p w':=⟨h.1.keep hb,h.2.1.keep hb,h.2.2.keep hb⟩
theorem StsP.keep {w w':World} {v:Value} {l:List Sx} (h:StsP w v l) (hb:Below w.heap.size w w'):StsP w' v l:=by
 obtain ⟨ps,h1,h2,h3⟩:=h;exact ⟨ps,h1,h2.keep hb,fun p hp=>spN_keep (h3 p hp) hb⟩
theorem StsP.nil (w:World):StsP w (.slice none 0 0) []:=⟨[],rfl,Rdk.nil 6 w,by simp⟩
structure ChIn (w:World) (e v t:Value) (x:Cx):Prop where
 evs:RdS w e x.evs
 vars:RdV w v x.vars
 sts:StsP w t x.sts
theorem ChIn.keep {w w':World} {e v t:Value} {x:Cx} (h:ChIn w e v t x) (hb:Below w.heap.size w w'):ChIn w' e v t x:=⟨Rd.keep h.evs hb,Rdk.keep h.vars hb,h.sts.keep hb⟩
theorem ChIn.zero (w:World):ChIn w (.slice none 0 0) (.slice none 0 0) (.slice none 0 0) zeroC:=⟨Rd.nil w,Rdk.nil 4 w,StsP.nil w⟩
def RetCh (W:World) (B:Nat) (p:Cur × Cx) (e:Ending) (w':World):Prop :=
 ∃ eA en ec vA vn vc sA sn sc,e = .returned (.agg #[.string p.2.s,.slice eA en ec,.slice vA vn vc,.slice sA sn sc])/\CurAt w' B p.1/\Dep w' (fun b=>W.heap.size<=b) (fun x=>ChIn x (.slice eA en ec) (.slice vA vn vc) (.slice sA sn sc) p.2)/\W.grownBy w' (some B)
theorem QaP (w:World):(Instr.build 34 #[]).run Tryz.prog w = .ok (.agg #[.string ⟨#[]⟩,.slice none 0 0,.slice none 0 0,.slice none 0 0]) w:=run_build w 34 _ _ (by kernel_rfl)
theorem Qe2 (B:Nat) (c:Cur) (w:World) (hs:SignsIn w) (h:CurAt w B c) (ok:Ok c):Calls Tryz.prog 20 #[.pointer (some ⟨B,0,none⟩)] w (RetCh w B (readC c)):=by
 have b1:=QaP;have HSG:=qh (fun W (hW:w.grownBy W (some B))=>Jk hs h hW);have H0:=qh (Rd4.start (T:=34) (z0:=.string ⟨#[]⟩) (z1:=.slice none 0 0) (z2:=.slice none 0 0) (z3:=.slice none 0 0) h);have HLT:=qh h.lt;obtain ⟨c1,e1⟩:∃ d,d=want c 1 wChart:=⟨_,rfl⟩;have k1:Ok c1:=e1 ▸ ok.want _ _;obtain ⟨c2,e2⟩:∃ d,d=nameC c1:=⟨_,rfl⟩;have k2:Ok c2:=e2 ▸ k1.nameC;obtain ⟨s,es⟩:∃ s,s=nameS c1:=⟨_,rfl⟩;obtain ⟨c3,e3⟩:∃ d,d=want c2 3 wOpen:=⟨_,rfl⟩;have k3:Ok c3:=e3 ▸ k2.want _ _;obtain ⟨⟨c4,evs⟩,e4⟩:∃ p,p=evR c3:=⟨_,rfl⟩;have k4:Ok c4:=by have:=(to_evR c3).ok k3; rw [<- e4] at this; exact this
 obtain ⟨⟨c5,vars⟩,e5⟩:∃ p,p=vaR c4:=⟨_,rfl⟩;have k5:Ok c5:=by have:=(to_vaR c4).ok k4; rw [<- e5] at this; exact this
 obtain ⟨⟨c6,sts⟩,e6⟩:∃ p,p=stR 12 0 (-1) c5:=⟨_,rfl⟩;obtain ⟨c7,e7⟩:∃ d,d=want c6 3 wShut:=⟨_,rfl⟩
 have HP:Hid (readC c = (c7,if c7.bad = 0 then ⟨s,evs,vars,sts⟩ else zeroC)):=qh (by
  unfold readC seqC;rw [<- e1,<- e2,<- es,<- e3,<- e4];dsimp only;rw [<- e5];dsimp only;rw [<- e6];dsimp only;rw [<- e7])
 have HW1:=qh (fun W (hW:CurAt W B c)=>Jl B c 1 wChart W hW);have HN2:=qh (fun W (hW:CurAt W B c1)=>Zj B c1 k1 W hW);have HW3:=qh (fun W (hW:CurAt W B c2)=>Jl B c2 3 wOpen W hW);have HE4:=qh (fun W (hW:CurAt W B c3)=>Qe0 B c3 W hW k3);have HV5:=qh (fun W (hW:CurAt W B c4)=>QhS B c4 W hW k4)
 have HS6:Hid (∀ W,SignsIn W -> CurAt W B c5 -> Calls Tryz.prog 44 #[.pointer (some ⟨B,0,none⟩),.slice none 0 0,.int .i64 (-1),.int .i64 1] W (RetSts W B [] (stR 12 0 (-1) c5))) :=
  qh (fun W hs hW=>Qb7 W B hs hW 12 (Nat.le_refl _) c5 [] (-1) none 0 W hW k5 (RowB.nil (Qx _ _) hW.lt) ⟨by decide,fun h=>absurd h (by decide)⟩ (fun h=>absurd h (by decide)))
 have HW7:=qh (fun W (hW:CurAt W B c6)=>Jl B c6 3 wShut W hW);rw [<- e1] at HW1;rw [<- e2,<- es] at HN2;rw [<- e3] at HW3;rw [<- e4] at HE4;rw [<- e5] at HV5;rw [<- e6] at HS6;rw [<- e7] at HW7;obtain ⟨P,hP⟩:∃ P,P=readC c:=⟨_,rfl⟩;rw [<- hP] at HP ⊢;clear e1 e2 es e3 e4 e5 e6 e7 k1 k2 k3 k4 k5 hP h ok hs;go_enter Tryz.func20,Tryz.ntmps20;go_wp2_with (go_at_call 21; go_fit (HW1.o _ H0.o.cur));rintro e x1 ⟨rfl,hc,hb⟩;have H1:=qh (H0.o.but hb hc);clear hc hb H0;go_wp2_with (go_at_call 41; go_fit (HN2.o _ H1.o.cur));rintro e x2 ⟨rfl,hc,hb⟩;have H2:=qh (H1.o.but hb hc);clear hc hb H1;have H2s:=qh (H2.o.set 0 (.string s) rfl);obtain ⟨f0,f1,f2,f3⟩:=Q3 H2.o.blk;obtain ⟨q0,q1,q2,q3⟩:=Qi H2.o.blk;go_wp2_with (go_at_call 21; go_fit (HW3.o _ H2s.o.cur));rintro e x3 ⟨rfl,hc,hb⟩;have H3:=qh (H2s.o.but hb hc);clear hc hb H2 H2s f0 f1 f2 f3 q0 q1 q2 q3;go_wp2_with (go_at_call 42; go_fit (HE4.o _ H3.o.cur));rintro e x4 ⟨eA,en,ec,rfl,hc,hd,hb⟩;have H4:=qh (H3.o.but hb hc);have HDE:=qh (hd.mono (S':=fun b=>w.heap.size+2<=b) fun b _ hb=>Nat.le_trans H3.o.size hb);clear hc hb hd H3;have H4s:=qh (H4.o.set 1 (.slice eA en ec) rfl);have HDE4:=qh (HDE.o.go (Rd4.store (W:=w) (wx:=x4) 1 (.slice eA en ec)) (fun b hS e=>by injection e with e; omega));obtain ⟨f0,f1,f2,f3⟩:=Q3 H4.o.blk;obtain ⟨q0,q1,q2,q3⟩:=Qi H4.o.blk;go_wp2_with (go_at_call 43; go_fit (HV5.o _ H4s.o.cur));rintro e x5 ⟨vA,vn,vc,rfl,hc,hd,hb⟩;have H5:=qh (H4s.o.but hb hc);have HDV:=qh (hd.mono (S':=fun b=>w.heap.size+2<=b) fun b _ hb=>Nat.le_trans H4s.o.size hb);have HDE5:=qh (HDE4.o.go hb (fun b hS e=>by injection e with e; have:=HLT.o; omega));clear hc hb hd H4 H4s HDE HDE4 f0 f1 f2 f3 q0 q1 q2 q3;have H5s:=qh (H5.o.set 2 (.slice vA vn vc) rfl);have HD5:=qh ((HDE5.o.and HDV.o).go (Rd4.store (W:=w) (wx:=x5) 2 (.slice vA vn vc)) (fun b hS e=>by injection e with e; omega));obtain ⟨f0,f1,f2,f3⟩:=Q3 H5.o.blk;obtain ⟨q0,q1,q2,q3⟩:=Qi H5.o.blk;go_wp2_with (go_at_call 44; go_fit (HS6.o _ (HSG.o _ H5s.o.grown) H5s.o.cur));rintro e x6 ⟨sA,sn,sc,qs,rfl,hc,hm,hr⟩;have H6:=qh (H5s.o.but hr.grown hc);have HD6:=qh ((HD5.o.go hr.grown (fun b hS e=>by injection e with e; have:=HLT.o; omega)).and (hr.far.mono (S':=fun b=>w.heap.size+2<=b) fun b _ hb=>Nat.le_trans H5s.o.size hb));have HM:=qh hm;clear hc hr hm H5 H5s HDE5 HDV HD5 f0 f1 f2 f3 q0 q1 q2 q3;have H6s:=qh (H6.o.set 3 (.slice sA sn sc) rfl);have HD6s:=qh (HD6.o.go (Rd4.store (W:=w) (wx:=x6) 3 (.slice sA sn sc)) (fun b hS e=>by injection e with e; omega));obtain ⟨f0,f1,f2,f3⟩:=Q3 H6.o.blk;obtain ⟨q0,q1,q2,q3⟩:=Qi H6.o.blk;go_wp2_with (go_at_call 21; go_fit (HW7.o _ H6s.o.cur));rintro e x7 ⟨rfl,hc,hb⟩;have H7:=qh (H6s.o.but hb hc);have HD7:=qh (HD6s.o.go hb (fun b hS e=>by injection e with e; have:=HLT.o; omega));clear hc hb H6 H6s HD6 HD6s f0 f1 f2 f3 q0 q1 q2 q3;have HGOOD:=qh (fun b hb=>JR _ _ _ _ x7 (Fl.of H7.o.cur) (b:=b) hb)
 by_cases h0:c7.bad=0
 ·have HP2:Hid (P = (c7,⟨s,evs,vars,sts⟩)):=qh (by rw [HP.o,if_pos h0])
  have HGD:=qh (HGOOD.o true (by simpa using h0));clear h0 HGOOD HP;go_wp2_with (go_at_call 45; go_fit HGD.o);rintro e y6 ⟨rfl,hb6⟩;have HX:=qh (H7.o.keep hb6);have HDX:=qh (HD7.o.keep hb6);clear hb6;obtain ⟨q0,q1,q2,q3⟩:=Qi HX.o.blk;obtain ⟨r0,r1,r2,r3⟩:=Qi HX.o.res;obtain ⟨f0,f1,f2,f3⟩:=Q3 HX.o.res;have HD:=qh (HX.o.done (.string s) (.slice eA en ec) (.slice vA vn vc) (.slice sA sn sc));go_wp2_with fail;obtain ⟨p0,p1,p2,p3⟩:=Q0 HX.o.res (.string s) (.slice eA en ec) (.slice vA vn vc) (.slice sA sn sc);refine bodyPost_ret (v:=.agg #[.string s,.slice eA en ec,.slice vA vn vc,.slice sA sn sc]) (by simp [results,Tryz.results20,go_sem,p0,p1,p2,p3]) rfl ?_;have hf:=(HDX.o.go HD.o (fun b hS e=>by injection e with e; omega)).mono (S':=fun b=>w.heap.size<=b) (fun b _ hb=>by omega);refine ⟨eA,en,ec,vA,vn,vc,sA,sn,sc,by rw [HP2.o],by rw [HP2.o]; exact HX.o.cur.own HD.o HX.o.lt,?_,Z8 HX.o.grown HD.o⟩;rw [HP2.o];exact hf.imp fun x hx=>⟨hx.1.1,hx.1.2,qs,HM.o,hx.2⟩
 ·have HP2:Hid (P = (c7,zeroC)):=qh (by rw [HP.o,if_neg h0])
  have HGD:=qh (HGOOD.o false (by simpa using h0));clear h0 HGOOD HP;go_wp2_with (go_at_call 45; go_fit HGD.o);rintro e y6 ⟨rfl,hb6⟩;have HX:=qh (H7.o.keep hb6);clear hb6;obtain ⟨r0,r1,r2,r3⟩:=Qi HX.o.res;obtain ⟨f0,f1,f2,f3⟩:=Q3 HX.o.res;have HD:=qh (HX.o.done (.string ⟨#[]⟩) (.slice none 0 0) (.slice none 0 0) (.slice none 0 0));go_wp2_with fail;obtain ⟨p0,p1,p2,p3⟩:=Q0 HX.o.res (.string ⟨#[]⟩) (.slice none 0 0) (.slice none 0 0) (.slice none 0 0);refine bodyPost_ret (v:=.agg #[.string ⟨#[]⟩,.slice none 0 0,.slice none 0 0,.slice none 0 0]) (by simp [results,Tryz.results20,go_sem,p0,p1,p2,p3]) rfl ?_;refine ⟨none,0,0,none,0,0,none,0,0,by rw [HP2.o],by rw [HP2.o]; exact HX.o.cur.own HD.o HX.o.lt,?_,Z8 HX.o.grown HD.o⟩;rw [HP2.o];exact Dep.triv ChIn.zero
end
end Go.Proofs.YtbdalbpackfejaaGreatDoor
