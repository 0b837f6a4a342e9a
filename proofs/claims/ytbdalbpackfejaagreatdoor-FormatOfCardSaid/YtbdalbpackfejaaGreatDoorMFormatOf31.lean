/- PrintPutW, FormRef, FormOfLaw, Laid, ScanLaid, ExprLaid, joined. -/
import Derived.Test.YtbdalbpackfejaaGreatDoorMFormatOf30
import Derived.Test.YtbdalbpackfejaaGreatDoorMFormatOf23
import Derived.Lib.LaidTab
import Derived.OpenShut
import Derived.LaidMore
import Derived.Stop.Joined
import Derived.Stop.LaidErr
set_option maxHeartbeats 16000000
set_option maxRecDepth 100000
namespace Go.Proofs.YtbdalbpackfejaaGreatDoor
section
open Go.RowKit Go.Sort CurSpec TermSpec EvalSpec ActSpec NamesSpec ExprSpec TransSpec SynSpec PrintSpec
open ShapeSpec (Sh up sf endOf SU)
set_option maxRecDepth 100000
abbrev chOb (s:ByteArray) (e v t:Value):Obj:=.cells #[.string s,e,v,t] 34
def PEvRel (P:ByteArray) (l:List ByteArray) (n:Nat) (p i:Value):Prop:=∃ k:Nat,k<=n/\i = .int .i64 k/\p = .string (P++bs (evTo l k))
def PVarRel (W:World) (P:ByteArray) (l:List Vr) (n:Nat) (p i:Value) (wr:World):Prop:=∃ k:Nat,k<=n/\i = .int .i64 k/\p = .string (P++bs ((l.take k).flatMap varT))/\Below W.heap.size W wr
def PStRel (W:World) (P:ByteArray) (sh:List Sh) (l:List Ts) (n:Nat) (p i:Value) (wr:World):Prop:=∃ k:Nat,k<=n/\i = .int .i64 k/\p = .string (P++bs (stsTo sh l k))/\Below W.heap.size W wr
def PClRel (W:World) (P:ByteArray) (sh:List Sh) (l:List Ts) (i m:Nat) (p j:Value) (wr:World):Prop:=∃ k:Nat,k<=m/\j = .int .i64 k/\p = .string (P++bs (closTo sh l i k))/\Below W.heap.size W wr
theorem evT_len {l:List ByteArray} (h:∀ e ∈ l,isName e.data.toList = true) (h8:l.length <= 8):(PrintSpec.evT l).length <= 130:=by
 obtain ⟨a,-⟩:=sep_w h;unfold PrintSpec.evT
 split
 ·simp
 ·simp only [List.length_append,List.length_cons,List.length_nil,Jb]
  omega
theorem Qiz (c:Tc):bs (putC c) = ((((⟨#[99,104,97,114,116,32]⟩ ++ c.s ++ ⟨#[32,123,10]⟩) ++ bs (PrintSpec.evT c.evs)) ++ bs (c.vars.flatMap varT)) ++ bs (stsT c.sh c.sts)) ++ ⟨#[125,10]⟩:=by
 rw [show (⟨#[99,104,97,114,116,32]⟩:ByteArray)=bs [99,104,97,114,116,32] from rfl,show (⟨#[32,123,10]⟩:ByteArray)=bs [32,123,10] from rfl,show (⟨#[125,10]⟩:ByteArray)=bs [125,10] from rfl]
 conv=>rhs; rw [<- bsT c.s]
 simp only [QX]
 congr 1
 simp [putC,inT]
theorem cput_any (x:Tc) (hx:x.Ok) (eA:Option Addr) (en ec:Nat) (vA:Option Addr) (vn vc:Nat) (sA:Option Addr) (sn sc:Nat) (w:World) (h:ChIn w (.slice eA en ec) (.slice vA vn vc) (.slice sA sn sc) x.cx) (hg:SignsIn w) :
 Calls Tryz.prog 12 #[.agg #[.string x.s,.slice eA en ec,.slice vA vn vc,.slice sA sn sc]] w (RetS w (bs (putC x))):=by
 have H:=hx.stand;obtain ⟨hvn,hvc⟩:=RdV.len h.vars;obtain ⟨hsn,hsc⟩:=h.sts.len;rw [show x.cx.sts=x.sts.map Ts.sx from rfl,List.length_map] at hsn;have hl:=H.len;have hf:=H.few;have h12:=QG hx.nm;have hev8:=hx.evf;have hva4:=hx.vaf;have HEN:=qh hx.evs;have HVO:=qh hx.vars;obtain ⟨W1,hW1⟩:∃ W1,w.alloc (chOb x.s (.slice eA en ec) (.slice vA vn vc) (.slice sA sn sc))=W1:=⟨_,rfl⟩;have hb1:Below w.heap.size w W1:=by rw [<- hW1]; exact KitC.Qh _ _
 have hk1:W1.heap[w.heap.size]?=some (chOb x.s (.slice eA en ec) (.slice vA vn vc) (.slice sA sn sc)):=by rw [<- hW1]; exact heap_alloc_new _ _
 have HK:=qh (fun W (hW:Below W1.heap.size W1 W)=>Qi (KitC.Qe hk1 hW));obtain ⟨eA',en',ec',heq,hen,hec,hE⟩:=Rd.strs (h.keep hb1).evs
 cases heq
 rw [show x.cx.evs=x.evs from rfl] at hen hE;have HEV:=qh hE;have HVI:=qh (fun W (hW:Below W1.heap.size W1 W)=>((RdV.vars h.vars).keep hb1).keep hW);have HST:=qh (fun W (hW:Below W1.heap.size W1 W)=>h.sts.keep (Qa hb1 hW));have HSG:=qh (fun W (hW:Below W1.heap.size W1 W)=>hg.keep (Qa hb1 hW))
 have HSS:=qh (fun W (hW:Below W1.heap.size W1 W) => (show Sts W (.slice sA sn sc) x.sh from by
  have:=(h.sts.keep (Qa hb1 hW)).sts
  rwa [sh_cx] at this))
 have HW1:=qh hW1;have HB1:=qh hb1;have HH:=qh H;have HP:=qh (Qiz x);have HEL:=qh (evT_len hx.evs hev8);obtain ⟨R,hR⟩:∃ R,R=bs (putC x):=⟨_,rfl⟩;rw [<- hR] at HP ⊢;obtain ⟨c0,c1,c2,c3⟩:=Qi hk1;have HSN:=qh hsn;have HVN:=qh hvn;have HNE:=qh hen;have hn60:sn<=60:=by omega
 have hv4:vn<=4:=by rw [hvn]; exact hva4
 have he8:en<=8:=by omega
 have HSL:=qh (show x.sh.length=sn by omega);obtain ⟨s,evs,vars,sts⟩:=x;obtain ⟨sh,hsh⟩:∃ sh,sh=(Tc.sh ⟨s,evs,vars,sts⟩):=⟨_,rfl⟩;rw [<- hsh] at HH HP HSS HSL;simp only [Tc.cx] at HVI HST HK c0 c1 c2 c3 HW1 HP HEN HVO HEV h12 HH HSN HVN HNE HEL;clear h hg hx H hvn hsn hl hf hev8 hva4 hW1 hb1 hk1 hen hE hR hsh;go_enter Tryz.func12,Tryz.ntmps12;have q1:¬ 9223372036854775807<6+s.size:=by omega
 have q2:¬ 9223372036854775807<6+s.size+3:=by omega
 go_wp2_with fail;rw [HW1.o];obtain ⟨P0,hP0⟩:∃ P0,P0=(⟨#[99,104,97,114,116,32]⟩:ByteArray)++s++⟨#[32,123,10]⟩:=⟨_,rfl⟩;have hP0z:P0.size<=30:=by rw [hP0,ByteArray.size_append,ByteArray.size_append]; show 6+s.size+3<=30; omega
 rw [<- hP0] at HP ⊢;clear q1 q2 hP0
 go_loop [3,4] (fun p i=>PEvRel P0 evs en p i) (fun _ i=>en-(intOf i).toNat)
 case atStart=>exact ⟨0,Nat.zero_le _,rfl,congrArg Value.string (J3 P0).symm⟩
 case round =>
  obtain ⟨k,hk,rfl,rfl⟩:=hrel;have hez:=evTo_len HEN.o (k:=k) (by have:=HNE.o; omega);obtain ⟨z,hz⟩:∃ z,z=P0++bs (evTo evs k):=⟨_,rfl⟩;have hzz:z.size<=200:=by rw [hz,ByteArray.size_append,Jc]; omega
  rw [<- hz]
  by_cases hlt:k<en
  ·obtain ⟨y,hy⟩:∃ y,evs[k]? = some y:=Qp (by rw [HNE.o]; exact hlt)
   obtain ⟨b,off,rfl,hb,hcell⟩:=HEV.o (by omega);have hck:=hcell k y hy;have hy12:=QG (HEN.o y (List.mem_of_getElem? hy));have hnx:=ev_next hy
   by_cases h0:k=0
   ·have g1:((k:Int) == 0) = true:=by simp; omega
    have HX:Hid (z ++ ⟨#[32,32,101,118,101,110,116,32]⟩ ++ y = P0 ++ bs (evTo evs (k + 1))):=qh (by
     rw [if_pos h0] at hnx;subst h0;rw [hz,hnx,show (⟨#[32,32,101,118,101,110,116,32]⟩:ByteArray)=bs (inT 1++[101,118,101,110,116,32]) from rfl,show bs (evTo evs 0)=⟨#[]⟩ from rfl,J3]
     conv=>lhs; rw [<- bsT y]
     rw [ByteArray.append_assoc,QX])
    have q1:¬ 9223372036854775807<z.size+8:=by omega
    have q2:¬ 9223372036854775807<z.size+8+y.size:=by omega
    clear hnx hz;subst h0;rw [Nat.add_zero] at hck;clear hy hcell;go_wp2_with fail
    go_round
    case rel=>exact ⟨0+1,by omega,by go_num,congrArg Value.string HX.o⟩
    case measure=>simp [intOf]; omega
   ·have g1:((k:Int) == 0) = false:=by simp; omega
    have HX:Hid (z ++ ⟨#[44,32]⟩ ++ y = P0 ++ bs (evTo evs (k + 1))):=qh (by
     rw [if_neg h0] at hnx;rw [hz,hnx,show (⟨#[44,32]⟩:ByteArray)=bs [44,32] from rfl]
     conv=>lhs; rw [<- bsT y]
     rw [ByteArray.append_assoc,ByteArray.append_assoc,QX,QX,List.append_assoc])
    have q1:¬ 9223372036854775807<z.size+2:=by omega
    have q2:¬ 9223372036854775807<z.size+2+y.size:=by omega
    clear hy hcell hnx hz;go_wp2_with fail
    go_round
    case rel=>exact ⟨k+1,by omega,by go_num,congrArg Value.string HX.o⟩
    case measure=>simp [intOf]; omega
  ·obtain rfl:k = en:=by omega
   obtain ⟨P1,hP1⟩:∃ P1,P1=P0++bs (PrintSpec.evT evs):=⟨_,rfl⟩;have hP1z:P1.size<=200:=by rw [hP1,ByteArray.size_append,Jc]; have:=HEL.o; omega
   have HZ:Hid ((k = 0 -> z = P1) /\ (0 < k -> z ++ ⟨#[59,10]⟩ = P1)):=qh (by
    have hkn:=HNE.o;refine ⟨fun h0=>?_,fun h0=>?_⟩
    ·subst h0
     rw [hz,hP1,ev_nil hkn]
    ·rw [hz,hP1,<- ev_done (l:=evs) (fun e=>by rw [e] at hkn; simp at hkn; omega),hkn,show (⟨#[59,10]⟩:ByteArray)=bs [59,10] from rfl,ByteArray.append_assoc,QX])
   rw [<- hP1] at HP;clear hz hP1 hez;go_upto_if 38 with fail
   go_cut [3] from 11 (fun p wx=>StrAt W1 P1 p wx)
   case first =>
    rcases Nat.eq_zero_or_pos k with h0 | h0
    ·have HX:=qh (HZ.o.1 h0)
     subst h0;go_wp2_with fail;go_meet
     case rel=>exact ⟨congrArg Value.string HX.o,Below.refl _ _⟩
    ·have HX:=qh (HZ.o.2 h0)
     have g0:decide (0<k)=true:=by simp; omega
     have q1:¬ 9223372036854775807<z.size+2:=by omega
     rw [g0];go_wp2_with fail;go_meet
     case rel=>exact ⟨congrArg Value.string HX.o,Below.refl _ _⟩
   case rest =>
    obtain ⟨rfl,hbc⟩:=hcut;have HBC:=qh hbc;clear c0 c1 c2 c3 hbc hzz HZ HEV;go_wp2_with fail
    go_loopw [3,5] (fun p i wr=>PVarRel W1 P1 vars vn p i wr) (fun _ i _=>vn-(intOf i).toNat)
    case atStart=>exact ⟨0,Nat.zero_le _,rfl,congrArg Value.string (J3 P1).symm,HBC.o⟩
    case round =>
     obtain ⟨i,hi,rfl,rfl,hbw⟩:=hrel;have HBW:=qh hbw;obtain ⟨c0,c1,c2,c3⟩:=HK.o _ hbw;have HV2:=qh (HVI.o _ hbw)
     have hlz:(bs ((vars.take i).flatMap varT)).size <= 70 * 4:=by
      rw [Jc];have:=Zk varT (fun _=>0) 70 0 (L:=vars.take i) fun v hv=>by have:=(var_w (HVO.o v (List.mem_of_mem_take hv))).1; omega
      rw [List.length_take] at this;have:=HVN.o;omega
     obtain ⟨z,hz⟩:∃ z,z=P1++bs ((vars.take i).flatMap varT):=⟨_,rfl⟩;have hzz:z.size<=500:=by rw [hz,ByteArray.size_append]; omega
     rw [<- hz];clear hbw
     by_cases hlt:i<vn
     ·obtain ⟨v,hv⟩:∃ v,vars[i]? = some v:=Qp (by rw [<- HVN.o]; exact hlt)
      obtain ⟨b,off,rfl,hb,d0,d1,d2,d3⟩:=HV2.o.at_ hv;have hov:=HVO.o v (List.mem_of_getElem? hv);have HX:Hid (P1++bs ((vars.take (i+1)).flatMap varT)=z++bs (varT v)):=qh (by rw [var_next hv,hz,ByteArray.append_assoc,QX]);have HY:=qh (HX.o.trans (var_bs z v));simp only [okV,Bool.and_eq_true] at hov;obtain ⟨o1,o2,o3,o4⟩:=hov;have s1:=QG o1;have s2:=(Qbs o2).1;have s3:=(Qbs o3).1;have s4:=(Qbs o4).1;have b2:=Zd o2;have b3:=Zd o3;have b4:=Zd o4;obtain ⟨OB,hOB⟩:∃ OB:Obj,OB = .cells #[.string v.s,.int .i64 v.lo,.int .i64 v.hi,.int .i64 v.ini] 46:=⟨_,rfl⟩;obtain ⟨W2,hW2⟩:∃ W2,wr.alloc OB=W2:=⟨_,rfl⟩;have hb2:Below wr.heap.size wr W2:=by rw [<- hW2]; exact KitC.Qh _ _
      have hk2:W2.heap[wr.heap.size]?=some OB:=by rw [<- hW2]; exact heap_alloc_new _ _
      have HQ:∀ n:Int,n.natAbs <= 1000000 -> ∀ d os,Calls Tryz.prog 27 #[.int .i64 n] (grow (redrawn W2 d) os) fun e w'' => e = .returned (.string (bs (ValSpec.text n))) /\ ∃ p:Regrown,w'' = grow (redrawn W2 p.d) p.os :=
       fun n hn d os=>Calls.regrown_of ((rput_any n _ (by omega) (by omega)).mono fun _ _ h=>⟨h.1,h.2 ▸ Below.refl _ _⟩)
      have HQ2:=qh (HQ v.lo b2);have HQ3:=qh (HQ v.hi b3);have HQ4:=qh (HQ v.ini b4);rw [hOB] at hW2 hk2;have HW2:=qh hW2;have HB2:=qh (Qa HBW.o hb2);obtain ⟨y2,hy2⟩:∃ y,y=bs (ValSpec.text v.lo):=⟨_,rfl⟩;obtain ⟨y3,hy3⟩:∃ y,y=bs (ValSpec.text v.hi):=⟨_,rfl⟩;obtain ⟨y4,hy4⟩:∃ y,y=bs (ValSpec.text v.ini):=⟨_,rfl⟩;have t2:y2.size<=8:=by rw [hy2,Jc]; exact s2
      have t3:y3.size<=8:=by rw [hy3,Jc]; exact s3
      have t4:y4.size<=8:=by rw [hy4,Jc]; exact s4
      rw [<- hy2] at HQ2 HY;rw [<- hy3] at HQ3 HY;rw [<- hy4] at HQ4 HY;obtain ⟨p0,p1,p2,p3⟩:=Qi hk2;have rp0:=cell_regrown p0;have rp1:=cell_regrown p1;have rp2:=cell_regrown p2;have rp3:=cell_regrown p3;obtain ⟨nm,lo,hi',ini⟩:=v;simp only at d0 d1 d2 d3 HQ2 HQ3 HQ4 HY s1 rp0 rp1 rp2 rp3 HW2;have q1:¬ 9223372036854775807<z.size+6:=by omega
      have q2:¬ 9223372036854775807<z.size+6+nm.size:=by omega
      have q3:¬ 9223372036854775807<z.size+6+nm.size+1:=by omega
      have q4:¬ 9223372036854775807<z.size+6+nm.size+1+y2.size:=by omega
      have q5:¬ 9223372036854775807<z.size+6+nm.size+1+y2.size+4:=by omega
      have q6:¬ 9223372036854775807<z.size+6+nm.size+1+y2.size+4+y3.size:=by omega
      have q7:¬ 9223372036854775807<z.size+6+nm.size+1+y2.size+4+y3.size+3:=by omega
      have q8:¬ 9223372036854775807<z.size+6+nm.size+1+y2.size+4+y3.size+3+y4.size:=by omega
      have q9:¬ 9223372036854775807<z.size+6+nm.size+1+y2.size+4+y3.size+3+y4.size+2:=by omega
      clear hv HX hz hlz o1 o2 o3 o4 s2 s3 s4 b2 b3 b4 HQ hOB OB hW2 hk2 hb2 hy2 hy3 hy4 p0 p1 p2 p3;go_wp2_with fail;rw [HW2.o];refine wp_region_quiet_below (by kernel_rfl) (by kernel_rfl) ?_
      repeat (go_big_quiet_step (first | (with_reducible exact HQ2.o _ _) | (with_reducible exact HQ3.o _ _) | (with_reducible exact HQ4.o _ _)))
      refine wpQuiet_nil ?_;intro _ hw';obtain ⟨⟨dq,osq⟩,hw''⟩:=hw';subst hw'';simp only;have HB5:=qh (Qa HB2.o (below_regrown W2 dq osq));go_wp2_with fail
      go_roundw
      case rel=>exact ⟨i+1,by omega,by go_num,congrArg Value.string HY.o.symm,HB5.o⟩
      case measure=>simp [intOf]; omega
     ·obtain rfl:i = vn:=by omega
      obtain ⟨P2,hP2⟩:∃ P2,P2=P1++bs (vars.flatMap varT):=⟨_,rfl⟩;have hzP:z=P2:=by rw [hz,hP2,List.take_of_length_le (by have:=HVN.o; omega)]
      rw [<- hP2] at HP;rw [hzP] at hzz ⊢;have HBX:=qh HBW.o;clear hz hP2 hzP hlz HV2 HVI;go_wp2_with fail
      go_loopw [3,8] (fun p i wr=>PStRel W1 P2 sh sts sn p i wr) (fun _ i _=>sn-(intOf i).toNat)
      case atStart=>exact ⟨0,Nat.zero_le _,rfl,congrArg Value.string (J3 P2).symm,HBX.o⟩
      case round =>
       obtain ⟨k,hk,rfl,rfl,hbw⟩:=hrel;have HBS:=qh hbw;have hkl:k<=sh.length:=by rw [HSL.o]; exact hk
       have hlz:(bs (stsTo sh sts k)).size <= 30000000:=by
        rw [Jc];have:=Qfh HH.o hkl;omega
       obtain ⟨z,hz⟩:∃ z,z=P2++bs (stsTo sh sts k):=⟨_,rfl⟩;have hzz2:z.size<=31000000:=by rw [hz,ByteArray.size_append]; omega
       rw [<- hz];clear hbw
       by_cases hlt:k<sn
       case neg =>
        obtain rfl:k=sn:=by omega
        have HX:Hid ((.string (z ++ ⟨#[125,10]⟩):Value) = .string R):=qh (by
         rw [HP.o,hz,<- Qfi,show sts.length=k by rw [<- HSN.o]])
        have q1:¬ 9223372036854775807<z.size+2:=by omega
        clear hz;go_wp2_with fail;go_ret;exact ⟨congrArg Ending.returned HX.o,Qa HB1.o HBS.o⟩
       have hkl':k<sh.length:=by rw [HSL.o]; exact hlt
       have HST2:=qh (fun W (hW:Below W1.heap.size W1 W)=>state_any sh sts HH.o sA sn sc k W (HST.o W hW) hlt (HSG.o W hW));have HSE:=qh (fun W (hW:Below W1.heap.size W1 W)=>rself_any sA sn sc sh.length sh k W (HSS.o W hW) HH.o.su hkl' (by rw [HSL.o]; exact Nat.le_refl _) (by omega));have hsl:=Qfp HH.o hkl';have hul:=HH.o.deep k hkl';rw [List.length_append] at hsl
       have hnx:P2 ++ bs (stsTo sh sts (k + 1)) = (z ++ bs (PrintSpec.stT sh sts k)) ++ bs (closT sh sts k):=by
        rw [QiC,hz,ByteArray.append_assoc,ByteArray.append_assoc,QX,QX]
       obtain ⟨y,hy⟩:∃ y,y=bs (PrintSpec.stT sh sts k):=⟨_,rfl⟩;have hyz:y.size<=460000:=by rw [hy,Jc]; omega
       rw [<- hy] at HST2 hnx;have q1:¬ 9223372036854775807<z.size+y.size:=by omega
       have HSFL:=qh (ShapeSpec.QiH sh k);clear hz hy hlz;go_wp2_with (go_at_call 28; go_fit (HST2.o _ HBS.o));rintro e2 w2 ⟨rfl,hb2⟩;have HB2:=qh (Qa HBS.o hb2);clear hb2;go_wp2_with (go_at_call 29; go_fit (HSE.o _ HB2.o));rintro e3 w3 hx3;obtain ⟨A3,c3',rfl,hv3,hb3⟩:=Zi hx3;have HB3:=qh (Qa HB2.o hb3);have HV3:=qh hv3;obtain ⟨z2,hz2⟩:∃ z2,z2=z++y:=⟨_,rfl⟩;rw [<- hz2] at hnx ⊢;have hz2z:z2.size<=31460000:=by rw [hz2,ByteArray.size_append]; omega
       rw [HSFL.o] at hv3 ⊢;have HNX:=qh hnx;obtain ⟨m,hm⟩:∃ m,m=(up sh k).length+1:=⟨_,rfl⟩;rw [<- hm];have hm12:m<=12:=by omega
       have HM:=qh (show (sf sh k).length=m from hm.symm);have HLT:=qh hlt;have HKL:=qh hkl';clear hx3 hv3 hb3 hz2 hnx hm q1 hsl hul HST2 HSE hzz2 hyz;go_wp2_with fail
       go_loopw [3,10] (fun p j wr=>PClRel w3 z2 sh sts k m p j wr) (fun _ j _=>m-(intOf j).toNat)
       case atStart=>exact ⟨0,Nat.zero_le _,rfl,congrArg Value.string (J3 z2).symm,Below.refl _ _⟩
       case round =>
        obtain ⟨j,hj,rfl,rfl,hbj⟩:=hrel;have HBJ:=qh hbj;have HBJ1:=qh (Qa HB3.o hbj);have hcz:(bs (closTo sh sts k j)).size<=312:=by rw [Jc]; exact Qjh HH.o HKL.o j
        obtain ⟨z3,hz3⟩:∃ z3,z3=z2++bs (closTo sh sts k j):=⟨_,rfl⟩;have hz3z:z3.size<=31470000:=by rw [hz3,ByteArray.size_append]; omega
        rw [<- hz3];clear hcz
        by_cases hjl:j<m
        case neg =>
         obtain rfl:j=m:=by omega
         have HX:Hid (z3=P2++bs (stsTo sh sts (k+1))):=qh (by rw [HNX.o,hz3,<- QiF,HM.o]);clear hz3 hbj;go_wp2_with fail
         go_roundw
         case rel=>exact ⟨k+1,HLT.o,by go_num,congrArg Value.string HX.o,HBJ1.o⟩
         case measure=>have:=HLT.o; simp [intOf]; omega
        obtain ⟨a,ha⟩:=Qp (l:=sf sh k) (k:=j) (by rw [HM.o]; exact hjl);obtain ⟨A4,n4,c4,heq,hn4,-,hcl⟩:=(HV3.o.keep hbj).ints
        cases heq
        obtain ⟨b4,o4,rfl,hb4,hcell⟩:=hcl (by have:=HSFL.o; omega);have hca:=hcell j a (ShapeSpec.sfI_get ha);have hak:=ShapeSpec.Qaf (List.mem_of_getElem? ha);have hal:a<sh.length:=by have:=HKL.o; omega
        have haj:a<sn:=by rw [<- HSL.o]; exact hal
        have HNXJ:=qh (show z2++bs (closTo sh sts k (j+1))=z3++bs (oneT sh sts k a) by rw [Qhz sh sts ha,hz3,ByteArray.append_assoc,QX]);have HEN2:=qh (fun W (hW:Below W1.heap.size W1 W)=>QiO sA sn sc sh a W (HSS.o W hW) (by rw [<- HSL.o]; exact HH.o.su) haj (by omega))
        have HEM2:=qh (fun W (hW:Below W1.heap.size W1 W) => (show Calls Tryz.prog 31 #[.slice sA sn sc,.int .i64 a] W (RetB W (emptyB sh sts a)) from by
         have:=Qe6 sA sn sc sts a W (HST.o W hW) haj (by omega)
         rwa [<- HH.o.eq] at this))
        have HAB2:=qh (fun W (hW:Below W1.heap.size W1 W)=>QaO sA sn sc sh.length sh a W (HSS.o W hW) HH.o.su hal (by rw [HSL.o]; exact Nat.le_refl _) (by omega));have hua:=HH.o.deep a hal;have HUL:=qh (ShapeSpec.J6 sh a);obtain ⟨u,hu⟩:∃ u,u=(up sh a).length:=⟨_,rfl⟩;have HIN:Hid (∀ W,Calls Tryz.prog 32 #[.int .i64 ((u:Int)+1)] W (SameS W (bs (inT (u+1))))):=qh (fun W=>by have:=in_any (u+1) (by omega) W; rwa [show ((u+1:Nat):Int)=(u:Int)+1 by omega] at this);have HYES:=qh (fun h1 h2=>one_yes (sh:=sh) (l:=sts) (i:=k) (j:=a) h1 h2 z3);have HNO:=qh (fun h=>one_no (sh:=sh) (l:=sts) (i:=k) (j:=a) h z3);rw [<- hu] at hua HUL HYES;obtain ⟨ee,hee⟩:∃ ee,ee=endOf sh a:=⟨_,rfl⟩;rw [<- hee] at HEN2 HYES HNO;obtain ⟨em,hem⟩:∃ em,em=emptyB sh sts a:=⟨_,rfl⟩;rw [<- hem] at HEM2 HYES HNO;obtain ⟨ib,hib⟩:∃ ib,ib=bs (inT (u+1)):=⟨_,rfl⟩;have hibz:ib.size<=24:=by rw [hib,Jc,Jb]; omega
        rw [<- hib] at HIN HYES;have HJL:=qh hjl;have HCA:=qh (fun W (hW:Below wr.heap.size wr W)=>(hW.cell (p:=⟨b4,o4+j,none⟩) hb4).trans hca);clear ha hcell hcl hz3 hbj hu hee hem hib hak hal haj hn4
        by_cases he:ee=k+1
        case neg =>
         have g1:((ee:Int)==(k:Int)+1)=false:=by simp; omega
         have HX:=qh (HNXJ.o.trans (HNO.o (fun h=>he h.1)));clear he HYES HNO;go_wp2_with (go_at_call 30; go_fit (HEN2.o _ HBJ1.o));rintro e5 w5 ⟨rfl,hb5⟩;have HB5:=qh (Qa HBJ.o hb5);clear hb5;go_wp2_with fail
         go_roundw
         case rel=>exact ⟨j+1,HJL.o,by go_num,congrArg Value.string HX.o.symm,HB5.o⟩
         case measure=>have:=HJL.o; simp [intOf]; omega
        have g1:((ee:Int)==(k:Int)+1)=true:=by simp; omega
        rcases em with _ | _
        case true =>
         have HX:=qh (HNXJ.o.trans (HNO.o (fun h=>by cases h.2)));clear he HYES HNO;go_wp2_with (go_at_call 30; go_fit (HEN2.o _ HBJ1.o));rintro e5 w5 ⟨rfl,hb5⟩;have HB5:=qh (Qa HBJ.o hb5);have HB51:=qh (Qa HBJ1.o hb5);have hc5:=HCA.o _ hb5;clear hb5;go_wp2_with (go_at_call 31; go_fit (HEM2.o _ HB51.o));rintro e6 w6 ⟨rfl,hb6⟩;have HB6:=qh (Qa HB5.o hb6);clear hb6;go_wp2_with fail
         go_roundw
         case rel=>exact ⟨j+1,HJL.o,by go_num,congrArg Value.string HX.o.symm,HB6.o⟩
         case measure=>have:=HJL.o; simp [intOf]; omega
        have HX:=qh (HNXJ.o.trans (HYES.o he rfl));have q2:¬ 9223372036854775807<z3.size+ib.size:=by omega
        have q3:¬ 9223372036854775807<z3.size+ib.size+2:=by omega
        clear he HYES HNO;go_wp2_with (go_at_call 30; go_fit (HEN2.o _ HBJ1.o));rintro e5 w5 ⟨rfl,hb5⟩;have HB5:=qh (And.intro hb5 (And.intro (Qa HBJ.o hb5) (Qa HBJ1.o hb5)));have hc5:=HCA.o _ hb5;clear hb5;go_wp2_with (go_at_call 31; go_fit (HEM2.o _ HB5.o.2.2));rintro e6 w6 ⟨rfl,hb6⟩;have HB6:=qh (And.intro (Qa HB5.o.1 hb6) (And.intro (Qa HB5.o.2.1 hb6) (Qa HB5.o.2.2 hb6)));have hc6:=HCA.o _ HB6.o.1;clear hb6;go_wp2_with (go_at_call 33; go_fit (HAB2.o _ HB6.o.2.2));rintro e7 w7 hx7;obtain ⟨A7,c7,rfl,-,hb7⟩:=Zi hx7;have HB7:=qh (Qa HB6.o.2.1 hb7);rw [HUL.o];clear hx7 hb7;go_wp2_with (go_at_call 32; go_fit (HIN.o _));rintro e8 w8 ⟨rfl,rfl⟩;go_wp2_with fail
        go_roundw
        case rel=>exact ⟨j+1,HJL.o,by go_num,congrArg Value.string HX.o.symm,HB7.o⟩
        case measure=>have:=HJL.o; simp [intOf]; omega
end
section
open Go.RowKit CurSpec TermSpec EvalSpec ActSpec NamesSpec ExprSpec TransSpec SynSpec FormSpec ScanSpec PrintSpec
set_option maxRecDepth 100000
theorem rof_bad (s:ByteArray) (o:Fo) (ho:FoBad s o) (w:World) (hz:s.size <= 9223372036854775800):Calls Tryz.prog 6 #[.string s] w (RetFo w o):=by
 have HT:=qh (QdX s (w.alloc poZ) hz);obtain ⟨P,hP⟩:∃ P,P=parseC s:=⟨_,rfl⟩;obtain ⟨h1,h2⟩:=ho;rw [<- hP] at HT h1 h2;have e1:(P.er != 0)=true:=by simpa using h1
 subst h2;clear h1 hP hz;go_enter Tryz.func6,Tryz.ntmps6;go_wp2_with (go_at_call 11; go_fit HT.o);rintro e x1 ⟨eA,en,ec,vA,vn,vc,sA,sn,sc,rfl,-,hb⟩;have hk:=(Qy hb).1;have HB:=qh (fun l c=>put_one hb (.int .i64 l) (.int .i64 c));have hlt:w.heap.size<x1.heap.size:=(Qy hb).2.2;obtain ⟨CO,hCO⟩:∃ CO:Obj,CO = .cells #[.string P.x.s,.slice eA en ec,.slice vA vn vc,.slice sA sn sc] 34:=⟨_,rfl⟩;have hb2:Below w.heap.size w ((x1.alloc CO).alloc (poO P.l P.c)):=Qa (Qy hb).2.1 (Qa (KitC.Qh _ _) (KitC.Qh _ _));have hpo:((x1.alloc CO).alloc (poO P.l P.c)).heap[x1.heap.size+1]?=some (poO P.l P.c):=by have:=heap_alloc_new (x1.alloc CO) (poO P.l P.c); rwa [World.size_alloc] at this
 have hre:((x1.alloc CO).alloc (poO P.l P.c)).heap[w.heap.size]?=some poZ:=Qe hk (Qa (KitC.Qh _ _) (KitC.Qh _ _));obtain ⟨Y,hY⟩:∃ Y,(x1.alloc CO).alloc (poO P.l P.c)=Y:=⟨_,rfl⟩;rw [hY] at hb2 hpo hre;rw [hCO] at hY;have HY:=qh hY;have HB2:=qh hb2;have HK:=qh hre;obtain ⟨t0,t1⟩:=QC hpo;obtain ⟨⟨r0,r1⟩,j0,j1⟩:=And.intro (QC hre) (Zu hre);have n1:¬ x1.heap.size+1=w.heap.size:=by omega
 have n2:¬ w.heap.size=x1.heap.size+1:=by omega
 clear hk hlt hb hCO hb2 hpo hre hY;go_upto_region 2 with fail;rw [HY.o];go_wp2_with fail;go_region
 all_goals
  go_wp2_with fail;obtain ⟨y0,y1⟩:=QC (show ((Y.setCell ⟨w.heap.size,0,none⟩ (.int .i64 P.l)).setCell ⟨w.heap.size,1,none⟩ (.int .i64 P.c)).heap[w.heap.size]?=some (poO P.l P.c) from Qd (Qd HK.o 0 _) 1 _);refine bodyPost_ret (v:=.tuple #[.string ⟨#[]⟩,.agg #[.int .i64 P.l,.int .i64 P.c],.int .i64 P.er]) (by simp [results,Tryz.results6,go_sem,y0,y1]) rfl ?_;exact ⟨rfl,((HB2.o.setCell (Nat.le_refl _) _).setCell (Nat.le_refl _) _).drew⟩
theorem rof_ok (s:ByteArray) (c:Tc) (o:Fo) (hP:parseC s = ⟨c.cx,0,0,0⟩) (ho:FoOk c o) (w:World) (hg:SignsIn w) (hz:s.size <= 9223372036854775800):Calls Tryz.prog 6 #[.string s] w (RetFo w o):=by
 have b2:=Qbm;have HT:=qh (QdX s (w.alloc poZ) hz);rw [hP] at HT;obtain ⟨ok,ho⟩:=ho;have HPT:=qh (fun eA en ec vA vn vc sA sn sc W (hW:Below w.heap.size w W) h=>cput_any c ok eA en ec vA vn vc sA sn sc W h (hg.keep hW));obtain ⟨t,ht⟩:∃ t,t=bs (putC c):=⟨_,rfl⟩;rw [<- ht] at HPT ho;have HTK:=qh (fun W=>Qfz t W);have hcs:c.cx.s=c.s:=rfl;obtain ⟨nm,hnm⟩:∃ nm,nm=c.s:=⟨_,rfl⟩;rw [<- hnm] at HPT;have HNM:Hid (c.cx.s=nm):=qh (hcs.trans hnm.symm);have HO:=qh ho;clear hP ho hg hz hcs hnm ok ht;go_enter Tryz.func6,Tryz.ntmps6;go_wp2_with (go_at_call 11; go_fit HT.o);rintro e x1 ⟨eA,en,ec,vA,vn,vc,sA,sn,sc,rfl,hch,hb⟩;simp only [HNM.o];have hk:=(Qy hb).1;obtain ⟨CO,hCO⟩:∃ CO:Obj,CO = .cells #[.string nm,.slice eA en ec,.slice vA vn vc,.slice sA sn sc] 34:=⟨_,rfl⟩;have hby:Below x1.heap.size x1 ((x1.alloc CO).alloc poZ):=Qa (KitC.Qh _ _) (KitC.Qh _ _);have hco:((x1.alloc CO).alloc poZ).heap[x1.heap.size]?=some CO:=Qe (heap_alloc_new _ _) (KitC.Qh _ _);obtain ⟨Y,hY⟩:∃ Y,(x1.alloc CO).alloc poZ=Y:=⟨_,rfl⟩;rw [hY] at hby hco;rw [hCO] at hY hco;have HY:=qh hY;have HBY:=qh (Qa (Qy hb).2.1 hby);have HCH:=qh (hch.keep hby);have HRE:=qh (Qe hk hby);obtain ⟨t0,t1,t2,t3⟩:=Qi hco;clear hk hb hCO hby hco hY hch;go_upto_region 4 with fail;rw [HY.o];go_wp2_with (go_at_call 12; go_fit (HPT.o _ _ _ _ _ _ _ _ _ _ HBY.o HCH.o));rintro e x2 ⟨rfl,hb⟩;have HB:=qh (Qa HBY.o hb);have HK:=qh (Qe HRE.o hb);clear hb;go_wp2_with (go_at_call 13; go_fit (HTK.o _));intro e x3 hx
 obtain ⟨a,b,lA,ln,lc,er,rfl,her,hb⟩:∃ a b lA ln lc er,e = .returned (.tuple #[.slice lA ln lc,.agg #[.int .i64 a,.int .i64 b],.int .i64 er]) /\ (er = 0 ↔ (scanT (T t)).2.2 = 0) /\ Below x2.heap.size x2 x3:=by
  by_cases h0:(scanT t.data.toList).2.2=0
  ·obtain ⟨A,n,cp,he,-,-,hb⟩:=QdH hx h0
   exact ⟨0,0,A,n,cp,0,he,⟨fun _=>h0,fun _=>rfl⟩,hb⟩
  ·exact ⟨_,_,none,0,0,_,hx.2.1 h0,Iff.rfl,hx.1⟩
 have HB3:=qh (Qa (Qa HB.o hb) (KitC.Qh x3 (poO a b)));have HK3:=qh (Qe (Qe HK.o hb) (KitC.Qh x3 (poO a b)));obtain ⟨⟨r0,r1⟩,j0,j1⟩:=And.intro (QC HK3.o) (Zu HK3.o);obtain ⟨y0,y1⟩:=QC (show (((x3.alloc (poO a b)).setCell ⟨w.heap.size,0,none⟩ (.int .i64 0)).setCell ⟨w.heap.size,1,none⟩ (.int .i64 0)).heap[w.heap.size]?=some (poO 0 0) from Qd (Qd HK3.o 0 _) 1 _);have HF:=qh ((HB3.o.setCell (p:=⟨w.heap.size,0,none⟩) (Nat.le_refl _) (.int .i64 0)).setCell (p:=⟨w.heap.size,1,none⟩) (Nat.le_refl _) (.int .i64 0))
 by_cases h0:er=0
 ·have g0:(er != 0) = false:=by simpa using h0
  have HO2:Hid (o=⟨t,0,0,0⟩):=qh (by rw [HO.o]; exact if_pos (her.1 h0));clear hx hb her h0;go_wp2_with fail;refine bodyPost_ret (v:=.tuple #[.string t,.agg #[.int .i64 0,.int .i64 0],.int .i64 0]) (by simp [results,Tryz.results6,go_sem,y0,y1]) rfl ?_;rw [HO2.o];exact ⟨rfl,HF.o⟩
 ·have g0:(er != 0) = true:=by simpa using h0
  have HO2:Hid (o=⟨⟨#[]⟩,0,0,5⟩):=qh (by rw [HO.o]; exact if_neg (fun h=>h0 (her.2 h)));clear hx hb her h0;go_wp2_with fail;refine bodyPost_ret (v:=.tuple #[.string ⟨#[]⟩,.agg #[.int .i64 0,.int .i64 0],.int .i64 5]) (by simp [results,Tryz.results6,go_sem,y0,y1]) rfl ?_;rw [HO2.o];exact ⟨rfl,HF.o⟩
theorem rof_any (s:ByteArray) (o:Fo) (ho:FoIs s o) (w:World) (hg:SignsIn w) (hz:s.size <= 9223372036854775800):Calls Tryz.prog 6 #[.string s] w (RetFo w o):=by
 rcases ho with ho | ⟨c,hP,ho⟩
 ·exact rof_bad s o ho w hz
 ·exact rof_ok s c o hP ho w hg hz
end
section
open Go.RowKit CurSpec TermSpec EvalSpec ActSpec NamesSpec ExprSpec TransSpec SynSpec FormSpec ScanSpec PrintSpec
set_option maxRecDepth 100000
theorem eq_pos (a b:Int) (w:World):(Op.equalIn 10000 24 (.agg #[.int .i64 a,.int .i64 b]) (.agg #[.int .i64 a,.int .i64 b])).run Tryz.prog w = .ok true w:=by
 have u3:=Tryz.underlying3;have hS:Tryz.prog.underlying 24=some (.struct (Tryz.prog.fieldsOf 24)):=by kernel_rfl
 rw [show (10000:Nat)=9999+1 from rfl,run_equalIn_agg w 9999 24 _ _ hS (by kernel_rfl)];simp only [Program.fieldsOf,Tryz.underlying24]
 go_simp
theorem Qe3 (s:ByteArray) (w:World) (hp:PairsIn w) (hg:SignsIn w) (hz:s.size <= 9223372036854775807):Calls Tryz.prog 3 #[.string s] w fun e w' => e = .returned (.bool true) /\ Below w.heap.size w w':=by
 have HAW:=qh (fun W (hW:Below w.heap.size w W)=>Qi5 W (hp.keep hW) (hg.keep hW))
 by_cases hb:1500<s.size
 ·have hbI:(1500:Int) < (s.size:Int):=by omega
  clear hp hg hz hb;go_enter Tryz.func3,Tryz.ntmps3;go_wp2_with (go_at_call 4; go_fit (HAW.o _ (Below.refl _ _)));rintro e x1 ⟨rfl,hb⟩;have HB1:=qh hb;clear hb;go_wp2_with fail;go_ret;exact ⟨rfl,HB1.o⟩
 ·have hbI:¬ (1500:Int) < (s.size:Int):=by omega
  obtain ⟨o,ho⟩:=form_is s;have H1:=qh (Qgk s o ho w hp hg hz);have H2:=qh (fun W (hW:Below w.heap.size w W)=>rof_any s o ho W (hg.keep hW) (by omega));obtain ⟨bi,hbi⟩:∃ bi,bi=(decide (o.er=0)&&decide (o.t=s)):=⟨_,rfl⟩;have H3:=qh (fun W (hW:Below w.heap.size w W)=>Qgi s o ho W (hp.keep hW) (hg.keep hW) hz);rw [<- hbi] at H3;have HBI:=qh hbi;obtain ⟨t,l,c,er⟩:=o;simp only at H1 H2 HBI;have gt:(t.toList==t.toList)=true:=by simp
  have ge:(er==er)=true:=by simp
  have gp:=eq_pos l c;clear hp hg hz ho hb hbi;go_enter Tryz.func3,Tryz.ntmps3;go_wp2_with (go_at_call 5; go_fit H1.o);rintro e x1 ⟨rfl,hb⟩;have HB1:=qh (Qa hb (KitC.Qh x1 (poO l c)));have hk:=heap_alloc_new x1 (poO l c);have HK1:=qh hk;clear hb hk;go_wp2_with (go_at_call 6; go_fit (H2.o _ HB1.o));rintro e x2 ⟨rfl,hb⟩;have HB2:=qh (Qa HB1.o (Qa hb (KitC.Qh x2 (poO l c))));have HK2:=qh (And.intro (Qe HK1.o (Qa hb (KitC.Qh x2 (poO l c)))) (heap_alloc_new x2 (poO l c)));obtain ⟨t0,t1⟩:=QC HK2.o.1;obtain ⟨u0,u1⟩:=QC HK2.o.2;clear hb;go_wp2_with (go_at_call 7; go_fit (H3.o _ HB2.o));rintro e x3 ⟨rfl,hb⟩;have HB3:=qh (Qa HB2.o hb);clear hb
  by_cases h0:er=0
  ·have g0:(er == 0) = true:=by simpa using h0
   by_cases h1:t=s
   ·have g1:(t.toList == s.toList) = true:=by rw [h1]; simp
    have HV:Hid (bi=true):=qh (by rw [HBI.o]; simp [h0,h1]);have g2:bi=true:=HV.o;subst g2;clear h0 h1;go_wp2_with (go_at_call 4; go_fit (HAW.o _ HB3.o));rintro e x4 ⟨rfl,hb⟩;have HB4:=qh (Qa HB3.o hb);clear hb;go_wp2_with fail;go_ret;exact ⟨rfl,HB4.o⟩
   ·have g1:(t.toList == s.toList) = false:=(Lib.bytes_beq_false_iff _ _).2 h1
    have g2:bi=false:=by rw [HBI.o]; simp [h1]
    subst g2;clear h0 h1;go_wp2_with (go_at_call 4; go_fit (HAW.o _ HB3.o));rintro e x4 ⟨rfl,hb⟩;have HB4:=qh (Qa HB3.o hb);clear hb;go_wp2_with fail;go_ret;exact ⟨rfl,HB4.o⟩
  ·have g0:(er == 0) = false:=by simpa using h0
   have g2:bi=false:=by rw [HBI.o]; simp [h0]
   subst g2;clear h0;go_wp2_with (go_at_call 4; go_fit (HAW.o _ HB3.o));rintro e x4 ⟨rfl,hb⟩;have HB4:=qh (Qa HB3.o hb);clear hb;go_wp2_with fail;go_ret;exact ⟨rfl,HB4.o⟩
end
section
open Go.RowKit
theorem Qe1 {H:Type} {enc:TypeId × Value -> H} {P:Program} {w:World} {base:Nat} {sp:Nat -> Bool} {held:Bool} {fuel:Nat} {t e:TypeId} {n:Nat} {cs:List Value} {bs:List (List UInt8)} {p:List MemPlace}
 (ht:P.underlying t=some (.array n e)) (he:P.underlying e=some .string) (hce:P.cellsOf e=1) (hct:P.cellsOf t=n)
 (h:DataW.trod enc P w base sp held fuel t cs=some (.agg (bs.map fun b => .lit (.string b)),p)):cs=bs.map fun b=>Value.string ⟨b.toArray⟩:=by
 obtain ⟨xs,m,rfl,hx,hl,hxl,hel⟩:=DataW.trod_array ht h;simp only [Prod.mk.injEq,DataW.agg.injEq] at hx;have hxs:=hx.1
 have hbl:bs.length = n:=by
  have:=congrArg List.length hxs;simp at this;omega
 rw [hct] at hl
 apply List.ext_getElem?
 intro i
 by_cases hi:i<n
 ·obtain ⟨b,hb⟩:∃ b,xs[i]? = some b:=Qp (by omega)
  have hf:=(hel i hi).trans hb;rw [hce,Nat.mul_one] at hf;obtain ⟨s,hc,rfl,_⟩:=DataW.trod_string he hf
  have h1:cs[i]? = some (.string s):=by
   have:=congrArg (·[0]?) hc
   simpa [List.getElem?_take,List.getElem?_drop] using this
  have h2:(xs.map (·.1))[i]?=some (DataW.lit (.string s.data.toList):DataW H):=by simp [hb]
  rw [<- hxs] at h2;simp only [List.getElem?_map,Option.map_eq_some_iff,DataW.lit.injEq,Lit.string.injEq] at h2;obtain ⟨z,hz,rfl⟩:=h2;simp [h1,hz]
 ·rw [List.getElem?_eq_none (by omega),List.getElem?_eq_none (by simp; omega)]
end
section
open Go.RowKit ScanSpec
set_option maxRecDepth 100000
def pairsB:List (List UInt8):=[[45,62],[58,61],[60,61],[62,61],[33,61],[61,61],[46,46]]
theorem gPairs : Tryz.prog.globalNamed "semblance/scan.pairs" = some 0 := by kernel_rfl
theorem tPairs:(Tryz.prog.globals[0]?).map (·.type)=some 199:=by kernel_rfl
theorem pairs_in {W : World} {rest : List (String × DataW Unit)} (h : laidMet Tryz.prog (("semblance/scan.pairs", Rows.laid_semblance_scan_pairs) :: rest) W) : PairsIn W := by
 obtain ⟨ps,⟨g',t',cs,fuel,p,q,hg',ht',hvar,hd,_,_⟩,_⟩:=h;obtain rfl:=Option.some.inj (gPairs.symm.trans hg');obtain rfl:=Option.some.inj (tPairs.symm.trans ht');have hc:=Qe1 (bs:=pairsB) Tryz.underlying199 Tryz.underlying9 (by kernel_rfl) (by kernel_rfl) hd;have e:cs=pairsV:=Array.toList_inj.mp hc;subst e;unfold World.var? at hvar;rw [gPairs] at hvar;simp only [Option.bind_some] at hvar
 split at hvar
 ·rename_i cs' T fr hb
  cases hvar
  exact ⟨T,fr,hb⟩
 ·cases hvar
end
section
open Go.RowKit ExprSpec
set_option maxRecDepth 100000
theorem list5 {α:Type} {l:List α} (h:l.length = 5):∃ a b c d e,l = [a,b,c,d,e]:=by
 match l,h with
 | [a,b,c,d,e],_ => exact ⟨a,b,c,d,e,rfl⟩
def sgD {H:Type} (s:Sg):DataW H:=.agg [.lit (.string s.t.data.toList),.lit (.int .i64 s.op),.lit (.int .i64 s.lev),.lit (.int .i64 s.left),.lit (.int .i64 s.right)]
theorem QhM:Tryz.prog.cellsOf 229=5:=by kernel_rfl
theorem sg_table:Tryz.prog.cellsOf 237=55:=by kernel_rfl
theorem sg_str:Tryz.prog.cellsOf 9=1:=by kernel_rfl
theorem Qgj:Tryz.prog.cellsOf 3=1:=by kernel_rfl
theorem sign_part {H:Type} {enc:TypeId × Value -> H} {w:World} {base:Nat} {sp:Nat -> Bool} {held:Bool} {fuel:Nat} {cs:List Value} {s:Sg} {p:List MemPlace}
 (h:DataW.trod enc Tryz.prog w base sp held fuel 229 cs=some (sgD s,p)):cs=sgC s:=by
 obtain ⟨xs,n,_,hx,hl,hlen,hf⟩:=DataW.trod_struct Tryz.underlying229 h;obtain ⟨a,b,c,d,e,rfl⟩:=list5 (hl.trans QhM);obtain ⟨y0,y1,y2,y3,y4,rfl⟩:=list5 hlen;have g0:DataW.trod enc Tryz.prog w base sp held n 9 (([a,b,c,d,e].drop 0).take (Tryz.prog.cellsOf 9))=some y0:=hf 0 _ rfl;rw [sg_str] at g0;have g1:DataW.trod enc Tryz.prog w base sp held n 3 (([a,b,c,d,e].drop 1).take (Tryz.prog.cellsOf 3))=some y1:=hf 1 _ rfl;rw [Qgj] at g1;have g2:DataW.trod enc Tryz.prog w base sp held n 3 (([a,b,c,d,e].drop 2).take (Tryz.prog.cellsOf 3))=some y2:=hf 2 _ rfl;rw [Qgj] at g2;have g3:DataW.trod enc Tryz.prog w base sp held n 3 (([a,b,c,d,e].drop 3).take (Tryz.prog.cellsOf 3))=some y3:=hf 3 _ rfl;rw [Qgj] at g3;have g4:DataW.trod enc Tryz.prog w base sp held n 3 (([a,b,c,d,e].drop 4).take (Tryz.prog.cellsOf 3))=some y4:=hf 4 _ rfl;rw [Qgj] at g4;obtain ⟨s0,c0,rfl,-⟩:=DataW.trod_string Tryz.underlying9 g0;obtain ⟨n1,c1,rfl,-⟩:=DataW.trod_int Tryz.underlying3 g1;obtain ⟨n2,c2,rfl,-⟩:=DataW.trod_int Tryz.underlying3 g2;obtain ⟨n3,c3,rfl,-⟩:=DataW.trod_int Tryz.underlying3 g3;obtain ⟨n4,c4,rfl,-⟩:=DataW.trod_int Tryz.underlying3 g4;simp at c0 c1 c2 c3 c4;subst c0 c1 c2 c3 c4;simp only [sgD,List.map_cons,List.map_nil,Prod.mk.injEq,DataW.agg.injEq,List.cons.injEq,DataW.lit.injEq,Lit.string.injEq,Lit.int.injEq,true_and,and_true] at hx;obtain ⟨⟨h0,h1,h2,h3,h4⟩,-⟩:=hx;have h0':s.t=s0:=ByteArray.ext (Array.toList_inj.mp h0);subst h0' h1 h2 h3 h4
 rfl
theorem Qew {α β:Type} {g:α -> List β} {k:Nat} (hg:∀ a,(g a).length = k):∀ (L:List α) (cs:List β),cs.length = L.length * k -> (∀ i a,L[i]? = some a -> (cs.drop (i * k)).take k = g a) -> cs = L.flatMap g
 | [],cs,hl,_ => by simpa using hl
 | a :: L,cs,hl,h => by
   have h0:=h 0 a rfl;rw [Nat.zero_mul,List.drop_zero] at h0;rw [List.length_cons,Nat.succ_mul] at hl
   have ih:=Qew hg L (cs.drop k) (by rw [List.length_drop]; omega) (fun i b hb => by
    rw [List.drop_drop,show k+i*k=(i+1)*k by rw [Nat.succ_mul]; omega];exact h (i+1) b hb)
   rw [List.flatMap_cons,<- ih,<- h0,List.take_append_drop]
theorem gSigns : Tryz.prog.globalNamed "semblance/expr.signs" = some 2 := by kernel_rfl
theorem tSigns:(Tryz.prog.globals[2]?).map (·.type)=some 237:=by kernel_rfl
theorem QjC {H:Type}:(Rows.laid_semblance_expr_signs:DataW H) = .agg (sgs.map sgD):=rfl
theorem signs_one {W : World} {rest : List (String × DataW Unit)} (h : laidMet Tryz.prog (("semblance/expr.signs", Rows.laid_semblance_expr_signs) :: rest) W) : SignsIn W := by
 obtain ⟨ps,⟨g',t',cs,fuel,p,q,hg',ht',hvar,hd,_,_⟩,_⟩:=h;obtain rfl:=Option.some.inj (gSigns.symm.trans hg');obtain rfl:=Option.some.inj (tSigns.symm.trans ht');rw [QjC] at hd;obtain ⟨xs,m,_,hx,hl,hxl,hel⟩:=DataW.trod_array Tryz.underlying237 hd;simp only [Prod.mk.injEq,DataW.agg.injEq] at hx;have hxs:=hx.1;rw [sg_table] at hl
 have hc:cs.toList = sgs.flatMap sgC:=by
  refine Qew (k:=5) (fun s=>rfl) sgs _ (by rw [hl]; rfl) (fun i s hs=>?_);have hi:i<11:=by have:=Ja hs; rwa [QgJ] at this
  obtain ⟨y,hy⟩:∃ y,xs[i]?=some y:=Qp (by omega);have hf:=(hel i hi).trans hy;rw [QhM] at hf;have h2:(xs.map (·.1))[i]?=some y.1:=by simp [hy]
  rw [<- hxs,List.getElem?_map,hs] at h2;have h3:sgD s=y.1:=Option.some.inj h2;obtain ⟨y1,y2⟩:=y;subst h3;exact sign_part hf
 have e:cs=signsV:=Array.toList_inj.mp hc;subst e;unfold World.var? at hvar;rw [gSigns] at hvar;simp only [Option.bind_some] at hvar
 split at hvar
 ·rename_i cs' T fr hb
  cases hvar
  exact ⟨T,fr,hb⟩
 ·cases hvar
theorem signs_in {W : World} {x : String × DataW Unit} {rest : List (String × DataW Unit)} (h : laidMet Tryz.prog (x :: ("semblance/expr.signs", Rows.laid_semblance_expr_signs) :: rest) W) : SignsIn W := signs_one (laidMet.tail h)
end
end Go.Proofs.YtbdalbpackfejaaGreatDoor
