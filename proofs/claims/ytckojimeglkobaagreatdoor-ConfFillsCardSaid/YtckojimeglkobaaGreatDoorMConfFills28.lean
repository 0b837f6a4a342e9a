/- TransCheck, PrintMayP, joined. -/
import Derived.Test.YtckojimeglkobaaGreatDoorMConfFills10
import Derived.Test.YtckojimeglkobaaGreatDoorMConfFills27
import Derived.Test.YtckojimeglkobaaGreatDoorMConfFills05
namespace Go.Proofs.YtckojimeglkobaaGreatDoor
open Go.RowKit TermSpec EvalSpec ActSpec NamesSpec ExprSpec TransSpec
set_option maxRecDepth 100000
set_option maxHeartbeats 1000000 in
theorem tmay_any (s:ByteArray) (w:World) (hs:s.size ≤ 9223372036854775807):Calls Tryz.prog 154 #[.string s] w (RetB w (okN s)):=by
 rcases Nat.eq_zero_or_pos s.size with h0 | h0
 ·have HE:=Lib.hid (okN_nil h0)
  have hnil:=str_nil' h0
  clear h0 hs
  go_enter Tryz.func154,Tryz.ntmps154
  go_wp2_with fail
  go_ret
  exact ⟨ret_bool HE.out.symm,Below.refl _ _⟩
 ·have hne:=str_ne' h0
  have HE:=Lib.hid (okN_pos h0)
  have HI:=Lib.hid (is_any s w hs)
  clear h0 hs
  go_enter Tryz.func154,Tryz.ntmps154
  go_wp2_with (go_at_call 102; (with_reducible refine HI.out.mono ?_))
  rintro e w2 ⟨rfl,hb⟩
  have HB:=Lib.hid hb
  clear hb
  go_wp2_with fail
  go_ret
  exact ⟨ret_bool HE.out.symm,HB.out⟩
set_option maxHeartbeats 4000000 in
theorem tcheck_any (t:Tr) (gA:Option Addr) (gn gc:Nat) (aA:Option Addr) (an ac:Nat) (w:World) (hs:SmallT t) (h:TrIn w gA gn gc aA an ac t) :
 Calls Tryz.prog 142 #[.agg #[.string t.ev,.slice gA gn gc,.slice aA an ac,.string t.tg]] w (RetI w (chkT t)):=by
 have hgn:=h.len.1
 have hcap:=h.cap.1
 have H1:=Lib.hid (fun W => tmay_any t.ev W hs.ev)
 have H2:=Lib.hid (fun W => tmay_any t.tg W hs.tg)
 have H3:=Lib.hid (fun W (hW:Below w.heap.size w W) => check_any gA gn gc t.g hgn (by have:=hs.glen; omega) hs.g W (h.g.keep hW))
 have H4:=Lib.hid (fun W (hW:Below w.heap.size w W) => check_acts aA an ac t.acts hs.acts hs.alen W (h.a.keep hW))
 have HN:=Lib.hid (fun h' => chkT_name (t:=t) h')
 have HO:=Lib.hid (fun a b c => chkT_nog (t:=t) a b c)
 have HX:=Lib.hid (fun a b c d => chkT_bad (t:=t) a b c d)
 have HG:=Lib.hid (fun a b c => chkT_good (t:=t) a b c)
 have HL:=Lib.hid hgn
 have hn62:(gn:Int) ≤ 4398046511104:=by have:=hs.glen; omega
 obtain ⟨r,hr⟩:∃ r,r = chkT t:=⟨_,rfl⟩
 rw [← hr] at HN HO HX HG ⊢
 obtain ⟨b1,hb1⟩:∃ b,b = okN t.ev:=⟨_,rfl⟩
 obtain ⟨b2,hb2⟩:∃ b,b = okN t.tg:=⟨_,rfl⟩
 obtain ⟨k,hk⟩:∃ b,b = chk t.g:=⟨_,rfl⟩
 obtain ⟨m,hm⟩:∃ b,b = chkA t.acts:=⟨_,rfl⟩
 rw [← hb1] at H1 HN HO HX HG
 rw [← hb2] at H2 HN HO HX HG
 rw [← hk] at H3 HX HG
 rw [← hm] at H4 HO HG
 obtain ⟨ev,g,acts,tg⟩:=t
 simp only at H1 H2 H3 H4 HL HO HX HG ⊢
 clear hr hb1 hb2 hk hm hgn hs h
 rcases b1 with _ | _
 ·have HR:=Lib.hid (HN.out (.inl rfl))
  clear HN HO HX HG HL
  go_enter Tryz.func142,Tryz.ntmps142
  go_wp2_with (go_at_call 154; (with_reducible refine (H1.out _).mono ?_))
  rintro e w2 ⟨rfl,hb2⟩
  have HB2:=Lib.hid (below_two' (KitC.below_one _ _) hb2)
  clear hb2
  go_wp2_with fail
  go_ret
  exact ⟨ret_int HR.out.symm,HB2.out⟩
 ·rcases b2 with _ | _
  ·have HR:=Lib.hid (HN.out (.inr rfl))
   clear HN HO HX HG HL
   go_enter Tryz.func142,Tryz.ntmps142
   go_wp2_with (go_at_call 154; (with_reducible refine (H1.out _).mono ?_))
   rintro e w2 ⟨rfl,hb2⟩
   have HB2:=Lib.hid (KitC.one_block hb2)
   obtain ⟨c0,c1,c2,c3⟩:=cells_4 HB2.out.1
   clear hb2
   go_wp2_with (go_at_call 154; (with_reducible refine (H2.out _).mono ?_))
   rintro e w3 ⟨rfl,hb3⟩
   have HB3:=Lib.hid (below_two' HB2.out.2.1 hb3)
   clear hb3
   go_wp2_with fail
   go_ret
   exact ⟨ret_int HR.out.symm,HB3.out⟩
  ·by_cases h0:gn = 0
   ·have HR:=Lib.hid (HO.out rfl rfl (by rw [← HL.out,h0]))
    subst h0
    clear HN HO HX HG HL
    go_enter Tryz.func142,Tryz.ntmps142
    go_wp2_with (go_at_call 154; (with_reducible refine (H1.out _).mono ?_))
    rintro e w2 ⟨rfl,hb2⟩
    have HB2:=Lib.hid (KitC.one_block hb2)
    obtain ⟨c0,c1,c2,c3⟩:=cells_4 HB2.out.1
    clear hb2
    go_wp2_with (go_at_call 154; (with_reducible refine (H2.out _).mono ?_))
    rintro e w3 ⟨rfl,hb3⟩
    have HB3:=Lib.hid (And.intro (KitC.block_on HB2.out.1 hb3) (below_two' HB2.out.2.1 hb3))
    clear hb3 c0 c1 c2 c3
    obtain ⟨c0,c1,c2,c3⟩:=cells_4 HB3.out.1
    go_wp2_with (go_at_call 125; (with_reducible refine (H4.out _ HB3.out.2).mono ?_))
    rintro e w4 ⟨rfl,hb4⟩
    have HB4:=Lib.hid (below_two' HB3.out.2 hb4)
    clear hb4
    go_wp2_with fail
    go_ret
    exact ⟨ret_int HR.out.symm,HB4.out⟩
   ·have g0:decide (0 < gn) = true:=by simp; omega
    by_cases hk0:k = 0
    ·have HR:=Lib.hid (HG.out rfl rfl hk0)
     subst hk0
     clear HN HO HX HG HL h0
     go_enter Tryz.func142,Tryz.ntmps142
     go_wp2_with (go_at_call 154; (with_reducible refine (H1.out _).mono ?_))
     rintro e w2 ⟨rfl,hb2⟩
     have HB2:=Lib.hid (KitC.one_block hb2)
     obtain ⟨c0,c1,c2,c3⟩:=cells_4 HB2.out.1
     clear hb2
     go_wp2_with (go_at_call 154; (with_reducible refine (H2.out _).mono ?_))
     rintro e w3 ⟨rfl,hb3⟩
     have HB3:=Lib.hid (And.intro (KitC.block_on HB2.out.1 hb3) (below_two' HB2.out.2.1 hb3))
     clear hb3 c0 c1 c2 c3
     obtain ⟨c0,c1,c2,c3⟩:=cells_4 HB3.out.1
     go_wp2_with (go_at_call 153; (with_reducible refine (H3.out _ HB3.out.2).mono ?_))
     rintro e w4 ⟨rfl,hb4⟩
     have HB4:=Lib.hid (And.intro (KitC.block_on HB3.out.1 hb4) (below_two' HB3.out.2 hb4))
     clear hb4 c0 c1 c2 c3
     obtain ⟨c0,c1,c2,c3⟩:=cells_4 HB4.out.1
     go_wp2_with (go_at_call 125; (with_reducible refine (H4.out _ HB4.out.2).mono ?_))
     rintro e w5 ⟨rfl,hb5⟩
     have HB5:=Lib.hid (below_two' HB4.out.2 hb5)
     clear hb5
     go_wp2_with fail
     go_ret
     exact ⟨ret_int HR.out.symm,HB5.out⟩
    ·have HR:=Lib.hid (HX.out rfl rfl (by rw [← HL.out]; exact h0) hk0)
     have e1:(k != 0) = true:=by simpa using hk0
     clear HN HO HX HG HL h0 hk0
     go_enter Tryz.func142,Tryz.ntmps142
     go_wp2_with (go_at_call 154; (with_reducible refine (H1.out _).mono ?_))
     rintro e w2 ⟨rfl,hb2⟩
     have HB2:=Lib.hid (KitC.one_block hb2)
     obtain ⟨c0,c1,c2,c3⟩:=cells_4 HB2.out.1
     clear hb2
     go_wp2_with (go_at_call 154; (with_reducible refine (H2.out _).mono ?_))
     rintro e w3 ⟨rfl,hb3⟩
     have HB3:=Lib.hid (And.intro (KitC.block_on HB2.out.1 hb3) (below_two' HB2.out.2.1 hb3))
     clear hb3 c0 c1 c2 c3
     obtain ⟨c0,c1,c2,c3⟩:=cells_4 HB3.out.1
     go_wp2_with (go_at_call 153; (with_reducible refine (H3.out _ HB3.out.2).mono ?_))
     rintro e w4 ⟨rfl,hb4⟩
     have HB4:=Lib.hid (below_two' HB3.out.2 hb4)
     clear hb4
     go_wp2_with fail
     go_ret
     exact ⟨ret_int HR.out.symm,HB4.out⟩
end Go.Proofs.YtckojimeglkobaaGreatDoor
namespace Go.Proofs.YtckojimeglkobaaGreatDoor
open Go.RowKit Go.Sort CurSpec TermSpec EvalSpec ActSpec NamesSpec ExprSpec TransSpec SynSpec PrintSpec
set_option maxRecDepth 100000
theorem pis_say {s:ByteArray} (hs:s.size ≤ 9223372036854775807) {b:Bool} (hb:isName s.data.toList = b) (W:World):Calls Tryz.prog 102 #[.string s] W (RetB W b):=by
 subst hb
 exact is_any s W hs
theorem mayInt_any (n:Int) (w:World):Calls Tryz.prog 122 #[.int .i64 n] w (SameB w (smallV n)):=by
 by_cases h1:-1000 ≤ n
 ·by_cases h2:n ≤ 1000
  ·have HE:Hid (smallV n = true):=Lib.hid (by unfold smallV; rw [decide_eq_true h1,decide_eq_true h2]; rfl)
   have g1:decide (-1000 ≤ n) = true:=decide_eq_true h1
   have g2:decide (n ≤ 1000) = true:=decide_eq_true h2
   go_enter Tryz.func122,Tryz.ntmps122
   go_wp2_with fail
   go_ret
   exact ⟨ret_bool HE.out.symm,rfl⟩
  ·have HE:Hid (smallV n = false):=Lib.hid (by unfold smallV; rw [decide_eq_false h2,Bool.and_false])
   have g1:decide (-1000 ≤ n) = true:=decide_eq_true h1
   have g2:decide (n ≤ 1000) = false:=decide_eq_false h2
   go_enter Tryz.func122,Tryz.ntmps122
   go_wp2_with fail
   go_ret
   exact ⟨ret_bool HE.out.symm,rfl⟩
 ·have HE:Hid (smallV n = false):=Lib.hid (by unfold smallV; rw [decide_eq_false h1]; rfl)
  have g1:decide (-1000 ≤ n) = false:=decide_eq_false h1
  go_enter Tryz.func122,Tryz.ntmps122
  go_wp2_with fail
  go_ret
  exact ⟨ret_bool HE.out.symm,rfl⟩
theorem mayInt_say {n:Int} {b:Bool} (hb:smallV n = b) (W:World):Calls Tryz.prog 122 #[.int .i64 n] W (SameB W b):=by
 subst hb
 exact mayInt_any n W
set_option maxHeartbeats 2000000 in
theorem mayVar_any (v:Vr) (hs:v.s.size ≤ 9223372036854775807) (w:World):Calls Tryz.prog 105 #[.agg #[.string v.s,.int .i64 v.lo,.int .i64 v.hi,.int .i64 v.ini]] w (RetB w (okV v)):=by
 obtain ⟨nm,lo,hi,ini⟩:=v
 simp only at hs
 have HOV:Hid (okV ⟨nm,lo,hi,ini⟩ = (isName nm.data.toList && (smallV lo && (smallV hi && smallV ini)))):=Lib.hid rfl
 obtain ⟨OV,hOV⟩:∃ OV:Obj,OV = .cells #[.string nm,.int .i64 lo,.int .i64 hi,.int .i64 ini] 52:=⟨_,rfl⟩
 have hkv:=heap_alloc_new w OV
 have HKV:=Lib.hid (fun W (hW:Below (w.alloc OV).heap.size (w.alloc OV) W) => cells_4 (KitC.block_on (by rw [← hOV]; exact hkv) hW))
 rw [hOV] at HKV
 have c0:(w.alloc (.cells #[.string nm,.int .i64 lo,.int .i64 hi,.int .i64 ini] 52)).cell? ⟨w.heap.size,0,none⟩ = some (.string nm):=(HKV.out _ (Below.refl _ _)).1
 rw [HOV.out]
 clear hkv hOV OV HOV
 obtain ⟨r,hr⟩:∃ r,r = (isName nm.data.toList && (smallV lo && (smallV hi && smallV ini))):=⟨_,rfl⟩
 rw [← hr]
 rcases h0:isName nm.data.toList with _ | _
 ·have HR:Hid (r = false):=Lib.hid (by rw [hr,h0]; rfl)
  have HN:=Lib.hid (fun W => pis_say hs h0 W)
  clear hr h0 hs
  go_enter Tryz.func105,Tryz.ntmps105
  go_wp2_with (go_at_call 102; (with_reducible refine (HN.out _).mono ?_))
  rintro e w2 ⟨rfl,hb2⟩
  have HB2:=Lib.hid (below_two' (KitC.below_one _ _) hb2)
  clear c0
  obtain ⟨c0,c1,c2,c3⟩:=HKV.out _ hb2
  clear hb2
  go_wp2_with fail
  go_ret
  exact ⟨ret_bool HR.out.symm,HB2.out⟩
 ·rcases h1:smallV lo with _ | _
  ·have HR:Hid (r = false):=Lib.hid (by rw [hr,h0,h1]; rfl)
   have HN:=Lib.hid (fun W => pis_say hs h0 W)
   have H1:=Lib.hid (fun W => mayInt_say h1 W)
   clear hr h0 h1 hs
   go_enter Tryz.func105,Tryz.ntmps105
   go_wp2_with (go_at_call 102; (with_reducible refine (HN.out _).mono ?_))
   rintro e w2 ⟨rfl,hb2⟩
   have HB2:=Lib.hid (below_two' (KitC.below_one _ _) hb2)
   clear c0
   obtain ⟨c0,c1,c2,c3⟩:=HKV.out _ hb2
   clear hb2
   go_wp2_with (go_at_call 122; (with_reducible refine (H1.out _).mono ?_))
   rintro e w' ⟨rfl,rfl⟩
   go_wp2_with fail
   go_ret
   exact ⟨ret_bool HR.out.symm,HB2.out⟩
  ·rcases h2:smallV hi with _ | _
   ·have HR:Hid (r = false):=Lib.hid (by rw [hr,h0,h1,h2]; rfl)
    have HN:=Lib.hid (fun W => pis_say hs h0 W)
    have H1:=Lib.hid (fun W => mayInt_say h1 W)
    have H2:=Lib.hid (fun W => mayInt_say h2 W)
    clear hr h0 h1 h2 hs
    go_enter Tryz.func105,Tryz.ntmps105
    go_wp2_with (go_at_call 102; (with_reducible refine (HN.out _).mono ?_))
    rintro e w2 ⟨rfl,hb2⟩
    have HB2:=Lib.hid (below_two' (KitC.below_one _ _) hb2)
    clear c0
    obtain ⟨c0,c1,c2,c3⟩:=HKV.out _ hb2
    clear hb2
    go_wp2_with (go_at_call 122; (with_reducible refine (H1.out _).mono ?_))
    rintro e w' ⟨rfl,rfl⟩
    go_wp2_with (go_at_call 122; (with_reducible refine (H2.out _).mono ?_))
    rintro e w' ⟨rfl,rfl⟩
    go_wp2_with fail
    go_ret
    exact ⟨ret_bool HR.out.symm,HB2.out⟩
   ·rcases h3:smallV ini with _ | _
    ·have HR:Hid (r = false):=Lib.hid (by rw [hr,h0,h1,h2,h3]; rfl)
     have HN:=Lib.hid (fun W => pis_say hs h0 W)
     have H1:=Lib.hid (fun W => mayInt_say h1 W)
     have H2:=Lib.hid (fun W => mayInt_say h2 W)
     have H3:=Lib.hid (fun W => mayInt_say h3 W)
     clear hr h0 h1 h2 h3 hs
     go_enter Tryz.func105,Tryz.ntmps105
     go_wp2_with (go_at_call 102; (with_reducible refine (HN.out _).mono ?_))
     rintro e w2 ⟨rfl,hb2⟩
     have HB2:=Lib.hid (below_two' (KitC.below_one _ _) hb2)
     clear c0
     obtain ⟨c0,c1,c2,c3⟩:=HKV.out _ hb2
     clear hb2
     go_wp2_with (go_at_call 122; (with_reducible refine (H1.out _).mono ?_))
     rintro e w' ⟨rfl,rfl⟩
     go_wp2_with (go_at_call 122; (with_reducible refine (H2.out _).mono ?_))
     rintro e w' ⟨rfl,rfl⟩
     go_wp2_with (go_at_call 122; (with_reducible refine (H3.out _).mono ?_))
     rintro e w' ⟨rfl,rfl⟩
     go_wp2_with fail
     go_ret
     exact ⟨ret_bool HR.out.symm,HB2.out⟩
    ·have HR:Hid (r = true):=Lib.hid (by rw [hr,h0,h1,h2,h3]; rfl)
     have HN:=Lib.hid (fun W => pis_say hs h0 W)
     have H1:=Lib.hid (fun W => mayInt_say h1 W)
     have H2:=Lib.hid (fun W => mayInt_say h2 W)
     have H3:=Lib.hid (fun W => mayInt_say h3 W)
     clear hr h0 h1 h2 h3 hs
     go_enter Tryz.func105,Tryz.ntmps105
     go_wp2_with (go_at_call 102; (with_reducible refine (HN.out _).mono ?_))
     rintro e w2 ⟨rfl,hb2⟩
     have HB2:=Lib.hid (below_two' (KitC.below_one _ _) hb2)
     clear c0
     obtain ⟨c0,c1,c2,c3⟩:=HKV.out _ hb2
     clear hb2
     go_wp2_with (go_at_call 122; (with_reducible refine (H1.out _).mono ?_))
     rintro e w' ⟨rfl,rfl⟩
     go_wp2_with (go_at_call 122; (with_reducible refine (H2.out _).mono ?_))
     rintro e w' ⟨rfl,rfl⟩
     go_wp2_with (go_at_call 122; (with_reducible refine (H3.out _).mono ?_))
     rintro e w' ⟨rfl,rfl⟩
     go_wp2_with fail
     go_ret
     exact ⟨ret_bool HR.out.symm,HB2.out⟩
def AllStrRel (W:World) (l:List ByteArray) (n:Nat) (i:Value) (wr:World):Prop:=∃ k:Nat,k ≤ n ∧ i = .int .i64 k ∧ (l.take k).all (fun e:ByteArray => isName e.data.toList) = true ∧ Below W.heap.size W wr
set_option maxHeartbeats 2000000 in
theorem allStr_any (A:Option Addr) (n c:Nat) (l:List ByteArray) (w:World) (h:Rd w (.slice A n c) (strV l)) (hf:∀ x ∈ l,x.size ≤ 9223372036854775807) (hm:n ≤ 9223372036854775807) :
 Calls Tryz.prog 103 #[.slice A n c,.func (.func 102) #[] #[]] w (RetB w (l.all (fun e:ByteArray => isName e.data.toList))):=by
 have HT:=Lib.hid h
 have hn:n = l.length:=by obtain ⟨_,_,_,heq,hn,_⟩:=h.strs; cases heq; exact hn.symm
 have HN:=Lib.hid hn
 have HF:=Lib.hid hf
 obtain ⟨r,hr⟩:∃ r,r = l.all (fun e:ByteArray => isName e.data.toList):=⟨_,rfl⟩
 rw [← hr]
 have HR:=Lib.hid hr
 clear h hn hf hr
 go_enter Tryz.func103,Tryz.ntmps103
 go_wp2_with fail
 go_loopw [6,9] (fun _ i wr => AllStrRel w l n i wr) (fun _ i _ => n - (intOf i).toNat)
 case atStart => exact ⟨0,Nat.zero_le _,rfl,rfl,Below.refl _ _⟩
 case round =>
  obtain ⟨k,hk,rfl,hall,hbw⟩:=hrel
  have HA:=Lib.hid hall
  have HB:=Lib.hid hbw
  clear hall hbw
  by_cases hlt:k < n
  ·obtain ⟨x,hx⟩:∃ x,l[k]? = some x:=get_some (by rw [← HN.out]; exact hlt)
   obtain ⟨A',n',c',heq,-,hnc,hcl⟩:=(HT.out.keep HB.out).strs
   cases heq
   obtain ⟨b,off,rfl,hb,hcell⟩:=hcl (by omega)
   have hck:=hcell k x hx
   have HBAD:=Lib.hid (fun h1 => (show r = false by rw [HR.out]; exact all_bad (f:=fun e:ByteArray => isName e.data.toList) hx h1))
   have HAT:=Lib.hid (fun h1 => all_take (f:=fun e:ByteArray => isName e.data.toList) hx HA.out h1)
   have HX:=Lib.hid (HF.out x (List.mem_of_getElem? hx))
   have HC:=Lib.hid (fun W => pis_say HX.out rfl W)
   obtain ⟨q,hq⟩:∃ q,q = (isName x.data.toList):=⟨_,rfl⟩
   have HC2:Hid (∀ W,Calls Tryz.prog 102 #[.string x] W (RetB W q)):=Lib.hid (by rw [hq]; exact HC.out)
   rw [← hq] at HBAD HAT
   clear hcell hcl
   clear hx hq HC
   rcases q with _ | _
   ·have HE:=Lib.hid (HBAD.out rfl)
    go_wp2_with (go_at_call 102; (with_reducible refine (HC2.out _).mono ?_))
    rintro e w4 ⟨rfl,hb4⟩
    have HB4:=Lib.hid (below_two' HB.out hb4)
    clear hb4
    go_wp2_with fail
    go_ret
    exact ⟨ret_bool HE.out.symm,HB4.out⟩
   ·have HE:=Lib.hid (HAT.out rfl)
    go_wp2_with (go_at_call 102; (with_reducible refine (HC2.out _).mono ?_))
    rintro e w4 ⟨rfl,hb4⟩
    have HB4:=Lib.hid (below_two' HB.out hb4)
    clear hb4
    go_wp2_with fail
    go_roundw
    case rel => exact ⟨k + 1,by omega,by go_num,HE.out,HB4.out⟩
    case measure => simp [intOf]; omega
  ·have HE:Hid (r = true):=Lib.hid (by
    have:=HA.out
    rw [List.take_of_length_le (by rw [← HN.out]; omega)] at this
    rw [HR.out,this])
   go_wp2_with fail
   go_ret
   exact ⟨ret_bool HE.out.symm,HB.out⟩
def AllVarRel (W:World) (l:List Vr) (n:Nat) (i:Value) (wr:World):Prop:=∃ k:Nat,k ≤ n ∧ i = .int .i64 k ∧ (l.take k).all (okV) = true ∧ Below W.heap.size W wr
set_option maxHeartbeats 2000000 in
theorem allVar_any (A:Option Addr) (n c:Nat) (l:List Vr) (w:World) (h:RdV w (.slice A n c) l) (hf:∀ x ∈ l,x.s.size ≤ 9223372036854775807) (hm:n ≤ 9223372036854775807) :
 Calls Tryz.prog 104 #[.slice A n c,.func (.func 105) #[] #[]] w (RetB w (l.all (okV))):=by
 have HT:=Lib.hid h
 have hn:=(RdV.len h).1
 have hnc:=(RdV.len h).2
 have HN:=Lib.hid hn
 have HF:=Lib.hid hf
 obtain ⟨r,hr⟩:∃ r,r = l.all (okV):=⟨_,rfl⟩
 rw [← hr]
 have HR:=Lib.hid hr
 clear h hn hf hr
 go_enter Tryz.func104,Tryz.ntmps104
 go_wp2_with fail
 go_loopw [6,9] (fun _ i wr => AllVarRel w l n i wr) (fun _ i _ => n - (intOf i).toNat)
 case atStart => exact ⟨0,Nat.zero_le _,rfl,rfl,Below.refl _ _⟩
 case round =>
  obtain ⟨k,hk,rfl,hall,hbw⟩:=hrel
  have HA:=Lib.hid hall
  have HB:=Lib.hid hbw
  clear hall hbw
  by_cases hlt:k < n
  ·obtain ⟨x,hx⟩:∃ x,l[k]? = some x:=get_some (by rw [← HN.out]; exact hlt)
   obtain ⟨b,off,rfl,hb,d0,d1,d2,d3⟩:=(RdV.vars (Rdk.keep HT.out HB.out)).at_ hx
   have HBAD:=Lib.hid (fun h1 => (show r = false by rw [HR.out]; exact all_bad (f:=okV) hx h1))
   have HAT:=Lib.hid (fun h1 => all_take (f:=okV) hx HA.out h1)
   have HX:=Lib.hid (HF.out x (List.mem_of_getElem? hx))
   have HC:=Lib.hid (fun W => mayVar_any x HX.out W)
   obtain ⟨q,hq⟩:∃ q,q = (okV x):=⟨_,rfl⟩
   have HC2:Hid (∀ W,Calls Tryz.prog 105 #[.agg #[.string x.s,.int .i64 x.lo,.int .i64 x.hi,.int .i64 x.ini]] W (RetB W q)):=Lib.hid (by rw [hq]; exact HC.out)
   rw [← hq] at HBAD HAT
   obtain ⟨nm,lo,hi,ini⟩:=x
   simp only at d0 d1 d2 d3 HC2
   clear hx hq HC
   rcases q with _ | _
   ·have HE:=Lib.hid (HBAD.out rfl)
    go_wp2_with (go_at_call 105; (with_reducible refine (HC2.out _).mono ?_))
    rintro e w4 ⟨rfl,hb4⟩
    have HB4:=Lib.hid (below_two' HB.out (below_two' (KitC.below_one _ _) hb4))
    clear hb4
    go_wp2_with fail
    go_ret
    exact ⟨ret_bool HE.out.symm,HB4.out⟩
   ·have HE:=Lib.hid (HAT.out rfl)
    go_wp2_with (go_at_call 105; (with_reducible refine (HC2.out _).mono ?_))
    rintro e w4 ⟨rfl,hb4⟩
    have HB4:=Lib.hid (below_two' HB.out (below_two' (KitC.below_one _ _) hb4))
    clear hb4
    go_wp2_with fail
    go_roundw
    case rel => exact ⟨k + 1,by omega,by go_num,HE.out,HB4.out⟩
    case measure => simp [intOf]; omega
  ·have HE:Hid (r = true):=Lib.hid (by
    have:=HA.out
    rw [List.take_of_length_le (by rw [← HN.out]; omega)] at this
    rw [HR.out,this])
   go_wp2_with fail
   go_ret
   exact ⟨ret_bool HE.out.symm,HB.out⟩
set_option maxHeartbeats 2000000 in
theorem mayTrans_any (t:Tr) (gA:Option Addr) (gn gc:Nat) (aA:Option Addr) (an ac:Nat) (w:World) (hs:SmallT t) (h:TrIn w gA gn gc aA an ac t) :
 Calls Tryz.prog 127 #[.agg #[.string t.ev,.slice gA gn gc,.slice aA an ac,.string t.tg]] w (RetB w (decide (chkT t = 0))):=by
 have HC:Hid (Calls Tryz.prog 142 #[.agg #[.string t.ev,.slice gA gn gc,.slice aA an ac,.string t.tg]] (w.alloc (.cells #[.string t.ev,.slice gA gn gc,.slice aA an ac,.string t.tg] 62)) (RetI (w.alloc (.cells #[.string t.ev,.slice gA gn gc,.slice aA an ac,.string t.tg] 62)) (chkT t))):=Lib.hid (tcheck_any t gA gn gc aA an ac _ hs (h.alloc _))
 obtain ⟨q,hq⟩:∃ q,q = chkT t:=⟨_,rfl⟩
 rw [← hq] at HC ⊢
 have HE:Hid ((q == 0) = decide (q = 0)):=Lib.hid (by by_cases h:q = 0 <;> simp [h])
 obtain ⟨ev,g,acts,tg⟩:=t
 simp only at HC
 clear hs h hq
 go_enter Tryz.func127,Tryz.ntmps127
 go_wp2_with (go_at_call 142; (with_reducible refine HC.out.mono ?_))
 rintro e w2 ⟨rfl,hb2⟩
 have HB2:=Lib.hid (below_two' (KitC.below_one _ _) hb2)
 clear hb2
 go_wp2_with fail
 go_ret
 exact ⟨ret_bool HE.out,HB2.out⟩
def AllTransRel (W:World) (l:List Tr) (n:Nat) (i:Value) (wr:World):Prop:=∃ k:Nat,k ≤ n ∧ i = .int .i64 k ∧ (l.take k).all (fun t:Tr => decide (chkT t = 0)) = true ∧ Below W.heap.size W wr
set_option maxHeartbeats 2000000 in
theorem allTrans_any (A:Option Addr) (n c:Nat) (l:List Tr) (w:World) (h:Trs w (.slice A n c) l) (hf:∀ x ∈ l,SmallT x) (hm:n ≤ 9223372036854775807) :
 Calls Tryz.prog 126 #[.slice A n c,.func (.func 127) #[] #[]] w (RetB w (l.all (fun t:Tr => decide (chkT t = 0)))):=by
 have HT:=Lib.hid h
 have hn:=h.len.1
 have hnc:=h.len.2
 have HN:=Lib.hid hn
 have HF:=Lib.hid hf
 obtain ⟨r,hr⟩:∃ r,r = l.all (fun t:Tr => decide (chkT t = 0)):=⟨_,rfl⟩
 rw [← hr]
 have HR:=Lib.hid hr
 clear h hn hf hr
 go_enter Tryz.func126,Tryz.ntmps126
 go_wp2_with fail
 go_loopw [6,9] (fun _ i wr => AllTransRel w l n i wr) (fun _ i _ => n - (intOf i).toNat)
 case atStart => exact ⟨0,Nat.zero_le _,rfl,rfl,Below.refl _ _⟩
 case round =>
  obtain ⟨k,hk,rfl,hall,hbw⟩:=hrel
  have HA:=Lib.hid hall
  have HB:=Lib.hid hbw
  clear hall hbw
  by_cases hlt:k < n
  ·obtain ⟨x,hx⟩:∃ x,l[k]? = some x:=get_some (by rw [← HN.out]; exact hlt)
   obtain ⟨b,off,gA,gn,gc,aA,an,ac,rfl,hb,d0,d1,d2,d3,htr⟩:=(HT.out.keep HB.out).at_ hx
   have HBAD:=Lib.hid (fun h1 => (show r = false by rw [HR.out]; exact all_bad (f:=fun t:Tr => decide (chkT t = 0)) hx h1))
   have HAT:=Lib.hid (fun h1 => all_take (f:=fun t:Tr => decide (chkT t = 0)) hx HA.out h1)
   have HX:=Lib.hid (HF.out x (List.mem_of_getElem? hx))
   have HC:=Lib.hid (fun W (hW:Below wr.heap.size wr W) => mayTrans_any x gA gn gc aA an ac W HX.out (htr.keep hW))
   obtain ⟨q,hq⟩:∃ q,q = (decide (chkT x = 0)):=⟨_,rfl⟩
   have HC2:Hid (∀ W,Below wr.heap.size wr W → Calls Tryz.prog 127 #[.agg #[.string x.ev,.slice gA gn gc,.slice aA an ac,.string x.tg]] W (RetB W q)):=Lib.hid (by rw [hq]; exact HC.out)
   rw [← hq] at HBAD HAT
   obtain ⟨ev,g,acts,tg⟩:=x
   simp only at d0 d1 d2 d3 HC2
   clear htr
   clear hx hq HC
   rcases q with _ | _
   ·have HE:=Lib.hid (HBAD.out rfl)
    go_wp2_with (go_at_call 127; (with_reducible refine (HC2.out _ (KitC.below_one _ _)).mono ?_))
    rintro e w4 ⟨rfl,hb4⟩
    have HB4:=Lib.hid (below_two' HB.out (below_two' (KitC.below_one _ _) hb4))
    clear hb4
    go_wp2_with fail
    go_ret
    exact ⟨ret_bool HE.out.symm,HB4.out⟩
   ·have HE:=Lib.hid (HAT.out rfl)
    go_wp2_with (go_at_call 127; (with_reducible refine (HC2.out _ (KitC.below_one _ _)).mono ?_))
    rintro e w4 ⟨rfl,hb4⟩
    have HB4:=Lib.hid (below_two' HB.out (below_two' (KitC.below_one _ _) hb4))
    clear hb4
    go_wp2_with fail
    go_roundw
    case rel => exact ⟨k + 1,by omega,by go_num,HE.out,HB4.out⟩
    case measure => simp [intOf]; omega
  ·have HE:Hid (r = true):=Lib.hid (by
    have:=HA.out
    rw [List.take_of_length_le (by rw [← HN.out]; omega)] at this
    rw [HR.out,this])
   go_wp2_with fail
   go_ret
   exact ⟨ret_bool HE.out.symm,HB.out⟩
end Go.Proofs.YtckojimeglkobaaGreatDoor