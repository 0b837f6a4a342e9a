/- TransRefCheck, joined. -/
import Derived.Test.YtckojimeglkobaaGreatDoorMConfFills10
import Derived.Test.YtckojimeglkobaaGreatDoorMConfFills25
namespace Go.Proofs.YtckojimeglkobaaGreatDoor
open Go.RowKit TermSpec EvalSpec ActSpec NamesSpec ExprSpec TransSpec
set_option maxRecDepth 100000
set_option maxHeartbeats 4000000 in
theorem trc_bad (t:Tr) (gA:Option Addr) (gn gc:Nat) (aA:Option Addr) (an ac:Nat) (w:World) (hs:SmallT t) (h:TrIn w gA gn gc aA an ac t) (ev0:0 < t.ev.size) (ev1:isName t.ev.data.toList = false) :
 Calls Tryz.prog 55 #[.agg #[.string t.ev,.slice gA gn gc,.slice aA an ac,.string t.tg]] w (RetI w (chkT t)):=by
 have hgn:=h.len.1
 have hcap:=h.cap.1
 have H1:=Lib.hid (fun W => ris_any t.ev W hs.ev)
 have H2:=Lib.hid (fun W => ris_any t.tg W hs.tg)
 have H3:=Lib.hid (fun W (hW:Below w.heap.size w W) => rcheck_any gA gn gc t.g hgn (by have:=hs.glen; omega) hs.g W (h.g.keep hW))
 have H4:=Lib.hid (fun W (hW:Below w.heap.size w W) => rcheck_acts aA an ac t.acts hs.acts hs.alen W (h.a.keep hW))
 have HN:=Lib.hid (fun h' => chkT_name (t:=t) h')
 have HO:=Lib.hid (fun a b c => chkT_nog (t:=t) a b c)
 have HX:=Lib.hid (fun a b c d => chkT_bad (t:=t) a b c d)
 have HG:=Lib.hid (fun a b c => chkT_good (t:=t) a b c)
 have HL:=Lib.hid hgn
 have hn62:(gn:Int) ≤ 4398046511104:=by have:=hs.glen; omega
 have he_badev:okN t.ev = false:=by rw [okN_pos ev0]; exact ev1
 have gev:decide (0 < t.ev.size) = true:=decide_eq_true (by omega)
 rw [ev1] at H1
 have HR:=Lib.hid (HN.out (.inl he_badev))
 obtain ⟨r,hr⟩:∃ r,r = chkT t:=⟨_,rfl⟩
 rw [← hr] at HR ⊢
 clear HN HO HX HG HL hr hs h hgn
 clear he_badev ev0 ev1
 obtain ⟨ev,g,acts,tg⟩:=t
 simp only at *
 go_enter Tryz.func55,Tryz.ntmps55
 go_wp2_with (go_at_call 51; (with_reducible refine (H1.out _).mono ?_))
 rintro e w2 ⟨rfl,hb⟩
 have HB2:=Lib.hid (And.intro (KitC.one_block hb).1 (KitC.one_block hb).2.1)
 obtain ⟨c0,c1,c2,c3⟩:=cells_4 HB2.out.1
 clear hb
 go_wp2_with fail
 go_ret
 exact ⟨ret_int HR.out.symm,HB2.out.2⟩
set_option maxHeartbeats 4000000 in
theorem trc_nilbad (t:Tr) (gA:Option Addr) (gn gc:Nat) (aA:Option Addr) (an ac:Nat) (w:World) (hs:SmallT t) (h:TrIn w gA gn gc aA an ac t) (ev0:t.ev.size = 0) (tg0:0 < t.tg.size) (tg1:isName t.tg.data.toList = false) :
 Calls Tryz.prog 55 #[.agg #[.string t.ev,.slice gA gn gc,.slice aA an ac,.string t.tg]] w (RetI w (chkT t)):=by
 have hgn:=h.len.1
 have hcap:=h.cap.1
 have H1:=Lib.hid (fun W => ris_any t.ev W hs.ev)
 have H2:=Lib.hid (fun W => ris_any t.tg W hs.tg)
 have H3:=Lib.hid (fun W (hW:Below w.heap.size w W) => rcheck_any gA gn gc t.g hgn (by have:=hs.glen; omega) hs.g W (h.g.keep hW))
 have H4:=Lib.hid (fun W (hW:Below w.heap.size w W) => rcheck_acts aA an ac t.acts hs.acts hs.alen W (h.a.keep hW))
 have HN:=Lib.hid (fun h' => chkT_name (t:=t) h')
 have HO:=Lib.hid (fun a b c => chkT_nog (t:=t) a b c)
 have HX:=Lib.hid (fun a b c d => chkT_bad (t:=t) a b c d)
 have HG:=Lib.hid (fun a b c => chkT_good (t:=t) a b c)
 have HL:=Lib.hid hgn
 have hn62:(gn:Int) ≤ 4398046511104:=by have:=hs.glen; omega
 have he_nilev:=okN_nil ev0
 have gev:decide (0 < t.ev.size) = false:=decide_eq_false (by omega)
 have he_badtg:okN t.tg = false:=by rw [okN_pos tg0]; exact tg1
 have gtg:decide (0 < t.tg.size) = true:=decide_eq_true (by omega)
 rw [tg1] at H2
 have HR:=Lib.hid (HN.out (.inr he_badtg))
 obtain ⟨r,hr⟩:∃ r,r = chkT t:=⟨_,rfl⟩
 rw [← hr] at HR ⊢
 clear HN HO HX HG HL hr hs h hgn
 clear he_nilev ev0
 clear he_badtg tg0 tg1
 obtain ⟨ev,g,acts,tg⟩:=t
 simp only at *
 go_enter Tryz.func55,Tryz.ntmps55
 go_wp2_with (go_at_call 51; (with_reducible refine (H2.out _).mono ?_))
 rintro e w2 ⟨rfl,hb⟩
 have HB2:=Lib.hid (And.intro (KitC.one_block hb).1 (KitC.one_block hb).2.1)
 obtain ⟨c0,c1,c2,c3⟩:=cells_4 HB2.out.1
 clear hb
 go_wp2_with fail
 go_ret
 exact ⟨ret_int HR.out.symm,HB2.out.2⟩
set_option maxHeartbeats 4000000 in
theorem trc_nilnilnone (t:Tr) (gA:Option Addr) (gn gc:Nat) (aA:Option Addr) (an ac:Nat) (w:World) (hs:SmallT t) (h:TrIn w gA gn gc aA an ac t) (ev0:t.ev.size = 0) (tg0:t.tg.size = 0) (hg0:t.g.length = 0) :
 Calls Tryz.prog 55 #[.agg #[.string t.ev,.slice gA gn gc,.slice aA an ac,.string t.tg]] w (RetI w (chkT t)):=by
 have hgn:=h.len.1
 have hcap:=h.cap.1
 have H1:=Lib.hid (fun W => ris_any t.ev W hs.ev)
 have H2:=Lib.hid (fun W => ris_any t.tg W hs.tg)
 have H3:=Lib.hid (fun W (hW:Below w.heap.size w W) => rcheck_any gA gn gc t.g hgn (by have:=hs.glen; omega) hs.g W (h.g.keep hW))
 have H4:=Lib.hid (fun W (hW:Below w.heap.size w W) => rcheck_acts aA an ac t.acts hs.acts hs.alen W (h.a.keep hW))
 have HN:=Lib.hid (fun h' => chkT_name (t:=t) h')
 have HO:=Lib.hid (fun a b c => chkT_nog (t:=t) a b c)
 have HX:=Lib.hid (fun a b c d => chkT_bad (t:=t) a b c d)
 have HG:=Lib.hid (fun a b c => chkT_good (t:=t) a b c)
 have HL:=Lib.hid hgn
 have hn62:(gn:Int) ≤ 4398046511104:=by have:=hs.glen; omega
 have he_nilev:=okN_nil ev0
 have gev:decide (0 < t.ev.size) = false:=decide_eq_false (by omega)
 have he_niltg:=okN_nil tg0
 have gtg:decide (0 < t.tg.size) = false:=decide_eq_false (by omega)
 have HR:=Lib.hid (HO.out he_nilev he_niltg hg0)
 obtain rfl:gn = 0:=by omega
 obtain ⟨r,hr⟩:∃ r,r = chkT t:=⟨_,rfl⟩
 rw [← hr] at HR ⊢
 clear HN HO HX HG HL hr hs h hgn
 clear he_nilev ev0
 clear he_niltg tg0
 clear hg0
 obtain ⟨ev,g,acts,tg⟩:=t
 simp only at *
 go_enter Tryz.func55,Tryz.ntmps55
 go_wp2_with (go_at_call 54; (with_reducible refine (H4.out _ (KitC.below_one _ _)).mono ?_))
 rintro e w2 ⟨rfl,hb⟩
 have HB2:=Lib.hid (And.intro (KitC.one_block hb).1 (KitC.one_block hb).2.1)
 obtain ⟨c0,c1,c2,c3⟩:=cells_4 HB2.out.1
 clear hb
 go_wp2_with fail
 go_ret
 exact ⟨ret_int HR.out.symm,HB2.out.2⟩
set_option maxHeartbeats 4000000 in
theorem trc_nilnilgood (t:Tr) (gA:Option Addr) (gn gc:Nat) (aA:Option Addr) (an ac:Nat) (w:World) (hs:SmallT t) (h:TrIn w gA gn gc aA an ac t) (ev0:t.ev.size = 0) (tg0:t.tg.size = 0) (hg0:0 < t.g.length) (hk:chk t.g = 0) :
 Calls Tryz.prog 55 #[.agg #[.string t.ev,.slice gA gn gc,.slice aA an ac,.string t.tg]] w (RetI w (chkT t)):=by
 have hgn:=h.len.1
 have hcap:=h.cap.1
 have H1:=Lib.hid (fun W => ris_any t.ev W hs.ev)
 have H2:=Lib.hid (fun W => ris_any t.tg W hs.tg)
 have H3:=Lib.hid (fun W (hW:Below w.heap.size w W) => rcheck_any gA gn gc t.g hgn (by have:=hs.glen; omega) hs.g W (h.g.keep hW))
 have H4:=Lib.hid (fun W (hW:Below w.heap.size w W) => rcheck_acts aA an ac t.acts hs.acts hs.alen W (h.a.keep hW))
 have HN:=Lib.hid (fun h' => chkT_name (t:=t) h')
 have HO:=Lib.hid (fun a b c => chkT_nog (t:=t) a b c)
 have HX:=Lib.hid (fun a b c d => chkT_bad (t:=t) a b c d)
 have HG:=Lib.hid (fun a b c => chkT_good (t:=t) a b c)
 have HL:=Lib.hid hgn
 have hn62:(gn:Int) ≤ 4398046511104:=by have:=hs.glen; omega
 have he_nilev:=okN_nil ev0
 have gev:decide (0 < t.ev.size) = false:=decide_eq_false (by omega)
 have he_niltg:=okN_nil tg0
 have gtg:decide (0 < t.tg.size) = false:=decide_eq_false (by omega)
 have HR:=Lib.hid (HG.out he_nilev he_niltg hk)
 rw [hk] at H3
 have g0:decide (0 < gn) = true:=by simp; omega
 obtain ⟨r,hr⟩:∃ r,r = chkT t:=⟨_,rfl⟩
 rw [← hr] at HR ⊢
 clear HN HO HX HG HL hr hs h hgn
 clear he_nilev ev0
 clear he_niltg tg0
 clear hg0 hk
 obtain ⟨ev,g,acts,tg⟩:=t
 simp only at *
 go_enter Tryz.func55,Tryz.ntmps55
 go_wp2_with (go_at_call 75; (with_reducible refine (H3.out _ (KitC.below_one _ _)).mono ?_))
 rintro e w2 ⟨rfl,hb⟩
 have HB2:=Lib.hid (And.intro (KitC.one_block hb).1 (KitC.one_block hb).2.1)
 obtain ⟨c0,c1,c2,c3⟩:=cells_4 HB2.out.1
 clear hb
 go_wp2_with (go_at_call 54; (with_reducible refine (H4.out _ HB2.out.2).mono ?_))
 rintro e w3 ⟨rfl,hb⟩
 have HB3:=Lib.hid (And.intro (KitC.block_on HB2.out.1 hb) (below_two' HB2.out.2 hb))
 clear hb c0 c1 c2 c3
 obtain ⟨c0,c1,c2,c3⟩:=cells_4 HB3.out.1
 go_wp2_with fail
 go_ret
 exact ⟨ret_int HR.out.symm,HB3.out.2⟩
set_option maxHeartbeats 4000000 in
theorem trc_nilnilfault (t:Tr) (gA:Option Addr) (gn gc:Nat) (aA:Option Addr) (an ac:Nat) (w:World) (hs:SmallT t) (h:TrIn w gA gn gc aA an ac t) (ev0:t.ev.size = 0) (tg0:t.tg.size = 0) (hg0:0 < t.g.length) (hk:chk t.g ≠ 0) :
 Calls Tryz.prog 55 #[.agg #[.string t.ev,.slice gA gn gc,.slice aA an ac,.string t.tg]] w (RetI w (chkT t)):=by
 have hgn:=h.len.1
 have hcap:=h.cap.1
 have H1:=Lib.hid (fun W => ris_any t.ev W hs.ev)
 have H2:=Lib.hid (fun W => ris_any t.tg W hs.tg)
 have H3:=Lib.hid (fun W (hW:Below w.heap.size w W) => rcheck_any gA gn gc t.g hgn (by have:=hs.glen; omega) hs.g W (h.g.keep hW))
 have H4:=Lib.hid (fun W (hW:Below w.heap.size w W) => rcheck_acts aA an ac t.acts hs.acts hs.alen W (h.a.keep hW))
 have HN:=Lib.hid (fun h' => chkT_name (t:=t) h')
 have HO:=Lib.hid (fun a b c => chkT_nog (t:=t) a b c)
 have HX:=Lib.hid (fun a b c d => chkT_bad (t:=t) a b c d)
 have HG:=Lib.hid (fun a b c => chkT_good (t:=t) a b c)
 have HL:=Lib.hid hgn
 have hn62:(gn:Int) ≤ 4398046511104:=by have:=hs.glen; omega
 have he_nilev:=okN_nil ev0
 have gev:decide (0 < t.ev.size) = false:=decide_eq_false (by omega)
 have he_niltg:=okN_nil tg0
 have gtg:decide (0 < t.tg.size) = false:=decide_eq_false (by omega)
 have HR:=Lib.hid (HX.out he_nilev he_niltg (by omega) hk)
 have g0:decide (0 < gn) = true:=by simp; omega
 obtain ⟨k,hkk⟩:∃ k,k = chk t.g:=⟨_,rfl⟩
 rw [← hkk] at H3 HR hk
 have e1:(k != 0) = true:=by simpa using hk
 obtain ⟨r,hr⟩:∃ r,r = chkT t:=⟨_,rfl⟩
 rw [← hr] at HR ⊢
 clear HN HO HX HG HL hr hs h hgn
 clear he_nilev ev0
 clear he_niltg tg0
 clear hg0 hkk hk
 obtain ⟨ev,g,acts,tg⟩:=t
 simp only at *
 go_enter Tryz.func55,Tryz.ntmps55
 go_wp2_with (go_at_call 75; (with_reducible refine (H3.out _ (KitC.below_one _ _)).mono ?_))
 rintro e w2 ⟨rfl,hb⟩
 have HB2:=Lib.hid (And.intro (KitC.one_block hb).1 (KitC.one_block hb).2.1)
 obtain ⟨c0,c1,c2,c3⟩:=cells_4 HB2.out.1
 clear hb
 go_wp2_with (go_at_call 75; (with_reducible refine (H3.out _ HB2.out.2).mono ?_))
 rintro e w3 ⟨rfl,hb⟩
 have HB3:=Lib.hid (And.intro (KitC.block_on HB2.out.1 hb) (below_two' HB2.out.2 hb))
 clear hb c0 c1 c2 c3
 obtain ⟨c0,c1,c2,c3⟩:=cells_4 HB3.out.1
 go_wp2_with fail
 go_ret
 exact ⟨ret_int HR.out.symm,HB3.out.2⟩
set_option maxHeartbeats 4000000 in
theorem trc_niloknone (t:Tr) (gA:Option Addr) (gn gc:Nat) (aA:Option Addr) (an ac:Nat) (w:World) (hs:SmallT t) (h:TrIn w gA gn gc aA an ac t) (ev0:t.ev.size = 0) (tg0:0 < t.tg.size) (tg1:isName t.tg.data.toList = true) (hg0:t.g.length = 0) :
 Calls Tryz.prog 55 #[.agg #[.string t.ev,.slice gA gn gc,.slice aA an ac,.string t.tg]] w (RetI w (chkT t)):=by
 have hgn:=h.len.1
 have hcap:=h.cap.1
 have H1:=Lib.hid (fun W => ris_any t.ev W hs.ev)
 have H2:=Lib.hid (fun W => ris_any t.tg W hs.tg)
 have H3:=Lib.hid (fun W (hW:Below w.heap.size w W) => rcheck_any gA gn gc t.g hgn (by have:=hs.glen; omega) hs.g W (h.g.keep hW))
 have H4:=Lib.hid (fun W (hW:Below w.heap.size w W) => rcheck_acts aA an ac t.acts hs.acts hs.alen W (h.a.keep hW))
 have HN:=Lib.hid (fun h' => chkT_name (t:=t) h')
 have HO:=Lib.hid (fun a b c => chkT_nog (t:=t) a b c)
 have HX:=Lib.hid (fun a b c d => chkT_bad (t:=t) a b c d)
 have HG:=Lib.hid (fun a b c => chkT_good (t:=t) a b c)
 have HL:=Lib.hid hgn
 have hn62:(gn:Int) ≤ 4398046511104:=by have:=hs.glen; omega
 have he_nilev:=okN_nil ev0
 have gev:decide (0 < t.ev.size) = false:=decide_eq_false (by omega)
 have he_oktg:okN t.tg = true:=by rw [okN_pos tg0]; exact tg1
 have gtg:decide (0 < t.tg.size) = true:=decide_eq_true (by omega)
 rw [tg1] at H2
 have HR:=Lib.hid (HO.out he_nilev he_oktg hg0)
 obtain rfl:gn = 0:=by omega
 obtain ⟨r,hr⟩:∃ r,r = chkT t:=⟨_,rfl⟩
 rw [← hr] at HR ⊢
 clear HN HO HX HG HL hr hs h hgn
 clear he_nilev ev0
 clear he_oktg tg0 tg1
 clear hg0
 obtain ⟨ev,g,acts,tg⟩:=t
 simp only at *
 go_enter Tryz.func55,Tryz.ntmps55
 go_wp2_with (go_at_call 51; (with_reducible refine (H2.out _).mono ?_))
 rintro e w2 ⟨rfl,hb⟩
 have HB2:=Lib.hid (And.intro (KitC.one_block hb).1 (KitC.one_block hb).2.1)
 obtain ⟨c0,c1,c2,c3⟩:=cells_4 HB2.out.1
 clear hb
 go_wp2_with (go_at_call 54; (with_reducible refine (H4.out _ HB2.out.2).mono ?_))
 rintro e w3 ⟨rfl,hb⟩
 have HB3:=Lib.hid (And.intro (KitC.block_on HB2.out.1 hb) (below_two' HB2.out.2 hb))
 clear hb c0 c1 c2 c3
 obtain ⟨c0,c1,c2,c3⟩:=cells_4 HB3.out.1
 go_wp2_with fail
 go_ret
 exact ⟨ret_int HR.out.symm,HB3.out.2⟩
set_option maxHeartbeats 4000000 in
theorem trc_nilokgood (t:Tr) (gA:Option Addr) (gn gc:Nat) (aA:Option Addr) (an ac:Nat) (w:World) (hs:SmallT t) (h:TrIn w gA gn gc aA an ac t) (ev0:t.ev.size = 0) (tg0:0 < t.tg.size) (tg1:isName t.tg.data.toList = true) (hg0:0 < t.g.length) (hk:chk t.g = 0) :
 Calls Tryz.prog 55 #[.agg #[.string t.ev,.slice gA gn gc,.slice aA an ac,.string t.tg]] w (RetI w (chkT t)):=by
 have hgn:=h.len.1
 have hcap:=h.cap.1
 have H1:=Lib.hid (fun W => ris_any t.ev W hs.ev)
 have H2:=Lib.hid (fun W => ris_any t.tg W hs.tg)
 have H3:=Lib.hid (fun W (hW:Below w.heap.size w W) => rcheck_any gA gn gc t.g hgn (by have:=hs.glen; omega) hs.g W (h.g.keep hW))
 have H4:=Lib.hid (fun W (hW:Below w.heap.size w W) => rcheck_acts aA an ac t.acts hs.acts hs.alen W (h.a.keep hW))
 have HN:=Lib.hid (fun h' => chkT_name (t:=t) h')
 have HO:=Lib.hid (fun a b c => chkT_nog (t:=t) a b c)
 have HX:=Lib.hid (fun a b c d => chkT_bad (t:=t) a b c d)
 have HG:=Lib.hid (fun a b c => chkT_good (t:=t) a b c)
 have HL:=Lib.hid hgn
 have hn62:(gn:Int) ≤ 4398046511104:=by have:=hs.glen; omega
 have he_nilev:=okN_nil ev0
 have gev:decide (0 < t.ev.size) = false:=decide_eq_false (by omega)
 have he_oktg:okN t.tg = true:=by rw [okN_pos tg0]; exact tg1
 have gtg:decide (0 < t.tg.size) = true:=decide_eq_true (by omega)
 rw [tg1] at H2
 have HR:=Lib.hid (HG.out he_nilev he_oktg hk)
 rw [hk] at H3
 have g0:decide (0 < gn) = true:=by simp; omega
 obtain ⟨r,hr⟩:∃ r,r = chkT t:=⟨_,rfl⟩
 rw [← hr] at HR ⊢
 clear HN HO HX HG HL hr hs h hgn
 clear he_nilev ev0
 clear he_oktg tg0 tg1
 clear hg0 hk
 obtain ⟨ev,g,acts,tg⟩:=t
 simp only at *
 go_enter Tryz.func55,Tryz.ntmps55
 go_wp2_with (go_at_call 51; (with_reducible refine (H2.out _).mono ?_))
 rintro e w2 ⟨rfl,hb⟩
 have HB2:=Lib.hid (And.intro (KitC.one_block hb).1 (KitC.one_block hb).2.1)
 obtain ⟨c0,c1,c2,c3⟩:=cells_4 HB2.out.1
 clear hb
 go_wp2_with (go_at_call 75; (with_reducible refine (H3.out _ HB2.out.2).mono ?_))
 rintro e w3 ⟨rfl,hb⟩
 have HB3:=Lib.hid (And.intro (KitC.block_on HB2.out.1 hb) (below_two' HB2.out.2 hb))
 clear hb c0 c1 c2 c3
 obtain ⟨c0,c1,c2,c3⟩:=cells_4 HB3.out.1
 go_wp2_with (go_at_call 54; (with_reducible refine (H4.out _ HB3.out.2).mono ?_))
 rintro e w4 ⟨rfl,hb⟩
 have HB4:=Lib.hid (And.intro (KitC.block_on HB3.out.1 hb) (below_two' HB3.out.2 hb))
 clear hb c0 c1 c2 c3
 obtain ⟨c0,c1,c2,c3⟩:=cells_4 HB4.out.1
 go_wp2_with fail
 go_ret
 exact ⟨ret_int HR.out.symm,HB4.out.2⟩
set_option maxHeartbeats 4000000 in
theorem trc_nilokfault (t:Tr) (gA:Option Addr) (gn gc:Nat) (aA:Option Addr) (an ac:Nat) (w:World) (hs:SmallT t) (h:TrIn w gA gn gc aA an ac t) (ev0:t.ev.size = 0) (tg0:0 < t.tg.size) (tg1:isName t.tg.data.toList = true) (hg0:0 < t.g.length) (hk:chk t.g ≠ 0) :
 Calls Tryz.prog 55 #[.agg #[.string t.ev,.slice gA gn gc,.slice aA an ac,.string t.tg]] w (RetI w (chkT t)):=by
 have hgn:=h.len.1
 have hcap:=h.cap.1
 have H1:=Lib.hid (fun W => ris_any t.ev W hs.ev)
 have H2:=Lib.hid (fun W => ris_any t.tg W hs.tg)
 have H3:=Lib.hid (fun W (hW:Below w.heap.size w W) => rcheck_any gA gn gc t.g hgn (by have:=hs.glen; omega) hs.g W (h.g.keep hW))
 have H4:=Lib.hid (fun W (hW:Below w.heap.size w W) => rcheck_acts aA an ac t.acts hs.acts hs.alen W (h.a.keep hW))
 have HN:=Lib.hid (fun h' => chkT_name (t:=t) h')
 have HO:=Lib.hid (fun a b c => chkT_nog (t:=t) a b c)
 have HX:=Lib.hid (fun a b c d => chkT_bad (t:=t) a b c d)
 have HG:=Lib.hid (fun a b c => chkT_good (t:=t) a b c)
 have HL:=Lib.hid hgn
 have hn62:(gn:Int) ≤ 4398046511104:=by have:=hs.glen; omega
 have he_nilev:=okN_nil ev0
 have gev:decide (0 < t.ev.size) = false:=decide_eq_false (by omega)
 have he_oktg:okN t.tg = true:=by rw [okN_pos tg0]; exact tg1
 have gtg:decide (0 < t.tg.size) = true:=decide_eq_true (by omega)
 rw [tg1] at H2
 have HR:=Lib.hid (HX.out he_nilev he_oktg (by omega) hk)
 have g0:decide (0 < gn) = true:=by simp; omega
 obtain ⟨k,hkk⟩:∃ k,k = chk t.g:=⟨_,rfl⟩
 rw [← hkk] at H3 HR hk
 have e1:(k != 0) = true:=by simpa using hk
 obtain ⟨r,hr⟩:∃ r,r = chkT t:=⟨_,rfl⟩
 rw [← hr] at HR ⊢
 clear HN HO HX HG HL hr hs h hgn
 clear he_nilev ev0
 clear he_oktg tg0 tg1
 clear hg0 hkk hk
 obtain ⟨ev,g,acts,tg⟩:=t
 simp only at *
 go_enter Tryz.func55,Tryz.ntmps55
 go_wp2_with (go_at_call 51; (with_reducible refine (H2.out _).mono ?_))
 rintro e w2 ⟨rfl,hb⟩
 have HB2:=Lib.hid (And.intro (KitC.one_block hb).1 (KitC.one_block hb).2.1)
 obtain ⟨c0,c1,c2,c3⟩:=cells_4 HB2.out.1
 clear hb
 go_wp2_with (go_at_call 75; (with_reducible refine (H3.out _ HB2.out.2).mono ?_))
 rintro e w3 ⟨rfl,hb⟩
 have HB3:=Lib.hid (And.intro (KitC.block_on HB2.out.1 hb) (below_two' HB2.out.2 hb))
 clear hb c0 c1 c2 c3
 obtain ⟨c0,c1,c2,c3⟩:=cells_4 HB3.out.1
 go_wp2_with (go_at_call 75; (with_reducible refine (H3.out _ HB3.out.2).mono ?_))
 rintro e w4 ⟨rfl,hb⟩
 have HB4:=Lib.hid (And.intro (KitC.block_on HB3.out.1 hb) (below_two' HB3.out.2 hb))
 clear hb c0 c1 c2 c3
 obtain ⟨c0,c1,c2,c3⟩:=cells_4 HB4.out.1
 go_wp2_with fail
 go_ret
 exact ⟨ret_int HR.out.symm,HB4.out.2⟩
set_option maxHeartbeats 4000000 in
theorem trc_okbad (t:Tr) (gA:Option Addr) (gn gc:Nat) (aA:Option Addr) (an ac:Nat) (w:World) (hs:SmallT t) (h:TrIn w gA gn gc aA an ac t) (ev0:0 < t.ev.size) (ev1:isName t.ev.data.toList = true) (tg0:0 < t.tg.size) (tg1:isName t.tg.data.toList = false) :
 Calls Tryz.prog 55 #[.agg #[.string t.ev,.slice gA gn gc,.slice aA an ac,.string t.tg]] w (RetI w (chkT t)):=by
 have hgn:=h.len.1
 have hcap:=h.cap.1
 have H1:=Lib.hid (fun W => ris_any t.ev W hs.ev)
 have H2:=Lib.hid (fun W => ris_any t.tg W hs.tg)
 have H3:=Lib.hid (fun W (hW:Below w.heap.size w W) => rcheck_any gA gn gc t.g hgn (by have:=hs.glen; omega) hs.g W (h.g.keep hW))
 have H4:=Lib.hid (fun W (hW:Below w.heap.size w W) => rcheck_acts aA an ac t.acts hs.acts hs.alen W (h.a.keep hW))
 have HN:=Lib.hid (fun h' => chkT_name (t:=t) h')
 have HO:=Lib.hid (fun a b c => chkT_nog (t:=t) a b c)
 have HX:=Lib.hid (fun a b c d => chkT_bad (t:=t) a b c d)
 have HG:=Lib.hid (fun a b c => chkT_good (t:=t) a b c)
 have HL:=Lib.hid hgn
 have hn62:(gn:Int) ≤ 4398046511104:=by have:=hs.glen; omega
 have he_okev:okN t.ev = true:=by rw [okN_pos ev0]; exact ev1
 have gev:decide (0 < t.ev.size) = true:=decide_eq_true (by omega)
 rw [ev1] at H1
 have he_badtg:okN t.tg = false:=by rw [okN_pos tg0]; exact tg1
 have gtg:decide (0 < t.tg.size) = true:=decide_eq_true (by omega)
 rw [tg1] at H2
 have HR:=Lib.hid (HN.out (.inr he_badtg))
 obtain ⟨r,hr⟩:∃ r,r = chkT t:=⟨_,rfl⟩
 rw [← hr] at HR ⊢
 clear HN HO HX HG HL hr hs h hgn
 clear he_okev ev0 ev1
 clear he_badtg tg0 tg1
 obtain ⟨ev,g,acts,tg⟩:=t
 simp only at *
 go_enter Tryz.func55,Tryz.ntmps55
 go_wp2_with (go_at_call 51; (with_reducible refine (H1.out _).mono ?_))
 rintro e w2 ⟨rfl,hb⟩
 have HB2:=Lib.hid (And.intro (KitC.one_block hb).1 (KitC.one_block hb).2.1)
 obtain ⟨c0,c1,c2,c3⟩:=cells_4 HB2.out.1
 clear hb
 go_wp2_with (go_at_call 51; (with_reducible refine (H2.out _).mono ?_))
 rintro e w3 ⟨rfl,hb⟩
 have HB3:=Lib.hid (And.intro (KitC.block_on HB2.out.1 hb) (below_two' HB2.out.2 hb))
 clear hb c0 c1 c2 c3
 obtain ⟨c0,c1,c2,c3⟩:=cells_4 HB3.out.1
 go_wp2_with fail
 go_ret
 exact ⟨ret_int HR.out.symm,HB3.out.2⟩
set_option maxHeartbeats 4000000 in
theorem trc_oknilnone (t:Tr) (gA:Option Addr) (gn gc:Nat) (aA:Option Addr) (an ac:Nat) (w:World) (hs:SmallT t) (h:TrIn w gA gn gc aA an ac t) (ev0:0 < t.ev.size) (ev1:isName t.ev.data.toList = true) (tg0:t.tg.size = 0) (hg0:t.g.length = 0) :
 Calls Tryz.prog 55 #[.agg #[.string t.ev,.slice gA gn gc,.slice aA an ac,.string t.tg]] w (RetI w (chkT t)):=by
 have hgn:=h.len.1
 have hcap:=h.cap.1
 have H1:=Lib.hid (fun W => ris_any t.ev W hs.ev)
 have H2:=Lib.hid (fun W => ris_any t.tg W hs.tg)
 have H3:=Lib.hid (fun W (hW:Below w.heap.size w W) => rcheck_any gA gn gc t.g hgn (by have:=hs.glen; omega) hs.g W (h.g.keep hW))
 have H4:=Lib.hid (fun W (hW:Below w.heap.size w W) => rcheck_acts aA an ac t.acts hs.acts hs.alen W (h.a.keep hW))
 have HN:=Lib.hid (fun h' => chkT_name (t:=t) h')
 have HO:=Lib.hid (fun a b c => chkT_nog (t:=t) a b c)
 have HX:=Lib.hid (fun a b c d => chkT_bad (t:=t) a b c d)
 have HG:=Lib.hid (fun a b c => chkT_good (t:=t) a b c)
 have HL:=Lib.hid hgn
 have hn62:(gn:Int) ≤ 4398046511104:=by have:=hs.glen; omega
 have he_okev:okN t.ev = true:=by rw [okN_pos ev0]; exact ev1
 have gev:decide (0 < t.ev.size) = true:=decide_eq_true (by omega)
 rw [ev1] at H1
 have he_niltg:=okN_nil tg0
 have gtg:decide (0 < t.tg.size) = false:=decide_eq_false (by omega)
 have HR:=Lib.hid (HO.out he_okev he_niltg hg0)
 obtain rfl:gn = 0:=by omega
 obtain ⟨r,hr⟩:∃ r,r = chkT t:=⟨_,rfl⟩
 rw [← hr] at HR ⊢
 clear HN HO HX HG HL hr hs h hgn
 clear he_okev ev0 ev1
 clear he_niltg tg0
 clear hg0
 obtain ⟨ev,g,acts,tg⟩:=t
 simp only at *
 go_enter Tryz.func55,Tryz.ntmps55
 go_wp2_with (go_at_call 51; (with_reducible refine (H1.out _).mono ?_))
 rintro e w2 ⟨rfl,hb⟩
 have HB2:=Lib.hid (And.intro (KitC.one_block hb).1 (KitC.one_block hb).2.1)
 obtain ⟨c0,c1,c2,c3⟩:=cells_4 HB2.out.1
 clear hb
 go_wp2_with (go_at_call 54; (with_reducible refine (H4.out _ HB2.out.2).mono ?_))
 rintro e w3 ⟨rfl,hb⟩
 have HB3:=Lib.hid (And.intro (KitC.block_on HB2.out.1 hb) (below_two' HB2.out.2 hb))
 clear hb c0 c1 c2 c3
 obtain ⟨c0,c1,c2,c3⟩:=cells_4 HB3.out.1
 go_wp2_with fail
 go_ret
 exact ⟨ret_int HR.out.symm,HB3.out.2⟩
set_option maxHeartbeats 4000000 in
theorem trc_oknilgood (t:Tr) (gA:Option Addr) (gn gc:Nat) (aA:Option Addr) (an ac:Nat) (w:World) (hs:SmallT t) (h:TrIn w gA gn gc aA an ac t) (ev0:0 < t.ev.size) (ev1:isName t.ev.data.toList = true) (tg0:t.tg.size = 0) (hg0:0 < t.g.length) (hk:chk t.g = 0) :
 Calls Tryz.prog 55 #[.agg #[.string t.ev,.slice gA gn gc,.slice aA an ac,.string t.tg]] w (RetI w (chkT t)):=by
 have hgn:=h.len.1
 have hcap:=h.cap.1
 have H1:=Lib.hid (fun W => ris_any t.ev W hs.ev)
 have H2:=Lib.hid (fun W => ris_any t.tg W hs.tg)
 have H3:=Lib.hid (fun W (hW:Below w.heap.size w W) => rcheck_any gA gn gc t.g hgn (by have:=hs.glen; omega) hs.g W (h.g.keep hW))
 have H4:=Lib.hid (fun W (hW:Below w.heap.size w W) => rcheck_acts aA an ac t.acts hs.acts hs.alen W (h.a.keep hW))
 have HN:=Lib.hid (fun h' => chkT_name (t:=t) h')
 have HO:=Lib.hid (fun a b c => chkT_nog (t:=t) a b c)
 have HX:=Lib.hid (fun a b c d => chkT_bad (t:=t) a b c d)
 have HG:=Lib.hid (fun a b c => chkT_good (t:=t) a b c)
 have HL:=Lib.hid hgn
 have hn62:(gn:Int) ≤ 4398046511104:=by have:=hs.glen; omega
 have he_okev:okN t.ev = true:=by rw [okN_pos ev0]; exact ev1
 have gev:decide (0 < t.ev.size) = true:=decide_eq_true (by omega)
 rw [ev1] at H1
 have he_niltg:=okN_nil tg0
 have gtg:decide (0 < t.tg.size) = false:=decide_eq_false (by omega)
 have HR:=Lib.hid (HG.out he_okev he_niltg hk)
 rw [hk] at H3
 have g0:decide (0 < gn) = true:=by simp; omega
 obtain ⟨r,hr⟩:∃ r,r = chkT t:=⟨_,rfl⟩
 rw [← hr] at HR ⊢
 clear HN HO HX HG HL hr hs h hgn
 clear he_okev ev0 ev1
 clear he_niltg tg0
 clear hg0 hk
 obtain ⟨ev,g,acts,tg⟩:=t
 simp only at *
 go_enter Tryz.func55,Tryz.ntmps55
 go_wp2_with (go_at_call 51; (with_reducible refine (H1.out _).mono ?_))
 rintro e w2 ⟨rfl,hb⟩
 have HB2:=Lib.hid (And.intro (KitC.one_block hb).1 (KitC.one_block hb).2.1)
 obtain ⟨c0,c1,c2,c3⟩:=cells_4 HB2.out.1
 clear hb
 go_wp2_with (go_at_call 75; (with_reducible refine (H3.out _ HB2.out.2).mono ?_))
 rintro e w3 ⟨rfl,hb⟩
 have HB3:=Lib.hid (And.intro (KitC.block_on HB2.out.1 hb) (below_two' HB2.out.2 hb))
 clear hb c0 c1 c2 c3
 obtain ⟨c0,c1,c2,c3⟩:=cells_4 HB3.out.1
 go_wp2_with (go_at_call 54; (with_reducible refine (H4.out _ HB3.out.2).mono ?_))
 rintro e w4 ⟨rfl,hb⟩
 have HB4:=Lib.hid (And.intro (KitC.block_on HB3.out.1 hb) (below_two' HB3.out.2 hb))
 clear hb c0 c1 c2 c3
 obtain ⟨c0,c1,c2,c3⟩:=cells_4 HB4.out.1
 go_wp2_with fail
 go_ret
 exact ⟨ret_int HR.out.symm,HB4.out.2⟩
set_option maxHeartbeats 4000000 in
theorem trc_oknilfault (t:Tr) (gA:Option Addr) (gn gc:Nat) (aA:Option Addr) (an ac:Nat) (w:World) (hs:SmallT t) (h:TrIn w gA gn gc aA an ac t) (ev0:0 < t.ev.size) (ev1:isName t.ev.data.toList = true) (tg0:t.tg.size = 0) (hg0:0 < t.g.length) (hk:chk t.g ≠ 0) :
 Calls Tryz.prog 55 #[.agg #[.string t.ev,.slice gA gn gc,.slice aA an ac,.string t.tg]] w (RetI w (chkT t)):=by
 have hgn:=h.len.1
 have hcap:=h.cap.1
 have H1:=Lib.hid (fun W => ris_any t.ev W hs.ev)
 have H2:=Lib.hid (fun W => ris_any t.tg W hs.tg)
 have H3:=Lib.hid (fun W (hW:Below w.heap.size w W) => rcheck_any gA gn gc t.g hgn (by have:=hs.glen; omega) hs.g W (h.g.keep hW))
 have H4:=Lib.hid (fun W (hW:Below w.heap.size w W) => rcheck_acts aA an ac t.acts hs.acts hs.alen W (h.a.keep hW))
 have HN:=Lib.hid (fun h' => chkT_name (t:=t) h')
 have HO:=Lib.hid (fun a b c => chkT_nog (t:=t) a b c)
 have HX:=Lib.hid (fun a b c d => chkT_bad (t:=t) a b c d)
 have HG:=Lib.hid (fun a b c => chkT_good (t:=t) a b c)
 have HL:=Lib.hid hgn
 have hn62:(gn:Int) ≤ 4398046511104:=by have:=hs.glen; omega
 have he_okev:okN t.ev = true:=by rw [okN_pos ev0]; exact ev1
 have gev:decide (0 < t.ev.size) = true:=decide_eq_true (by omega)
 rw [ev1] at H1
 have he_niltg:=okN_nil tg0
 have gtg:decide (0 < t.tg.size) = false:=decide_eq_false (by omega)
 have HR:=Lib.hid (HX.out he_okev he_niltg (by omega) hk)
 have g0:decide (0 < gn) = true:=by simp; omega
 obtain ⟨k,hkk⟩:∃ k,k = chk t.g:=⟨_,rfl⟩
 rw [← hkk] at H3 HR hk
 have e1:(k != 0) = true:=by simpa using hk
 obtain ⟨r,hr⟩:∃ r,r = chkT t:=⟨_,rfl⟩
 rw [← hr] at HR ⊢
 clear HN HO HX HG HL hr hs h hgn
 clear he_okev ev0 ev1
 clear he_niltg tg0
 clear hg0 hkk hk
 obtain ⟨ev,g,acts,tg⟩:=t
 simp only at *
 go_enter Tryz.func55,Tryz.ntmps55
 go_wp2_with (go_at_call 51; (with_reducible refine (H1.out _).mono ?_))
 rintro e w2 ⟨rfl,hb⟩
 have HB2:=Lib.hid (And.intro (KitC.one_block hb).1 (KitC.one_block hb).2.1)
 obtain ⟨c0,c1,c2,c3⟩:=cells_4 HB2.out.1
 clear hb
 go_wp2_with (go_at_call 75; (with_reducible refine (H3.out _ HB2.out.2).mono ?_))
 rintro e w3 ⟨rfl,hb⟩
 have HB3:=Lib.hid (And.intro (KitC.block_on HB2.out.1 hb) (below_two' HB2.out.2 hb))
 clear hb c0 c1 c2 c3
 obtain ⟨c0,c1,c2,c3⟩:=cells_4 HB3.out.1
 go_wp2_with (go_at_call 75; (with_reducible refine (H3.out _ HB3.out.2).mono ?_))
 rintro e w4 ⟨rfl,hb⟩
 have HB4:=Lib.hid (And.intro (KitC.block_on HB3.out.1 hb) (below_two' HB3.out.2 hb))
 clear hb c0 c1 c2 c3
 obtain ⟨c0,c1,c2,c3⟩:=cells_4 HB4.out.1
 go_wp2_with fail
 go_ret
 exact ⟨ret_int HR.out.symm,HB4.out.2⟩
set_option maxHeartbeats 4000000 in
theorem trc_okoknone (t:Tr) (gA:Option Addr) (gn gc:Nat) (aA:Option Addr) (an ac:Nat) (w:World) (hs:SmallT t) (h:TrIn w gA gn gc aA an ac t) (ev0:0 < t.ev.size) (ev1:isName t.ev.data.toList = true) (tg0:0 < t.tg.size) (tg1:isName t.tg.data.toList = true) (hg0:t.g.length = 0) :
 Calls Tryz.prog 55 #[.agg #[.string t.ev,.slice gA gn gc,.slice aA an ac,.string t.tg]] w (RetI w (chkT t)):=by
 have hgn:=h.len.1
 have hcap:=h.cap.1
 have H1:=Lib.hid (fun W => ris_any t.ev W hs.ev)
 have H2:=Lib.hid (fun W => ris_any t.tg W hs.tg)
 have H3:=Lib.hid (fun W (hW:Below w.heap.size w W) => rcheck_any gA gn gc t.g hgn (by have:=hs.glen; omega) hs.g W (h.g.keep hW))
 have H4:=Lib.hid (fun W (hW:Below w.heap.size w W) => rcheck_acts aA an ac t.acts hs.acts hs.alen W (h.a.keep hW))
 have HN:=Lib.hid (fun h' => chkT_name (t:=t) h')
 have HO:=Lib.hid (fun a b c => chkT_nog (t:=t) a b c)
 have HX:=Lib.hid (fun a b c d => chkT_bad (t:=t) a b c d)
 have HG:=Lib.hid (fun a b c => chkT_good (t:=t) a b c)
 have HL:=Lib.hid hgn
 have hn62:(gn:Int) ≤ 4398046511104:=by have:=hs.glen; omega
 have he_okev:okN t.ev = true:=by rw [okN_pos ev0]; exact ev1
 have gev:decide (0 < t.ev.size) = true:=decide_eq_true (by omega)
 rw [ev1] at H1
 have he_oktg:okN t.tg = true:=by rw [okN_pos tg0]; exact tg1
 have gtg:decide (0 < t.tg.size) = true:=decide_eq_true (by omega)
 rw [tg1] at H2
 have HR:=Lib.hid (HO.out he_okev he_oktg hg0)
 obtain rfl:gn = 0:=by omega
 obtain ⟨r,hr⟩:∃ r,r = chkT t:=⟨_,rfl⟩
 rw [← hr] at HR ⊢
 clear HN HO HX HG HL hr hs h hgn
 clear he_okev ev0 ev1
 clear he_oktg tg0 tg1
 clear hg0
 obtain ⟨ev,g,acts,tg⟩:=t
 simp only at *
 go_enter Tryz.func55,Tryz.ntmps55
 go_wp2_with (go_at_call 51; (with_reducible refine (H1.out _).mono ?_))
 rintro e w2 ⟨rfl,hb⟩
 have HB2:=Lib.hid (And.intro (KitC.one_block hb).1 (KitC.one_block hb).2.1)
 obtain ⟨c0,c1,c2,c3⟩:=cells_4 HB2.out.1
 clear hb
 go_wp2_with (go_at_call 51; (with_reducible refine (H2.out _).mono ?_))
 rintro e w3 ⟨rfl,hb⟩
 have HB3:=Lib.hid (And.intro (KitC.block_on HB2.out.1 hb) (below_two' HB2.out.2 hb))
 clear hb c0 c1 c2 c3
 obtain ⟨c0,c1,c2,c3⟩:=cells_4 HB3.out.1
 go_wp2_with (go_at_call 54; (with_reducible refine (H4.out _ HB3.out.2).mono ?_))
 rintro e w4 ⟨rfl,hb⟩
 have HB4:=Lib.hid (And.intro (KitC.block_on HB3.out.1 hb) (below_two' HB3.out.2 hb))
 clear hb c0 c1 c2 c3
 obtain ⟨c0,c1,c2,c3⟩:=cells_4 HB4.out.1
 go_wp2_with fail
 go_ret
 exact ⟨ret_int HR.out.symm,HB4.out.2⟩
set_option maxHeartbeats 4000000 in
theorem trc_okokgood (t:Tr) (gA:Option Addr) (gn gc:Nat) (aA:Option Addr) (an ac:Nat) (w:World) (hs:SmallT t) (h:TrIn w gA gn gc aA an ac t) (ev0:0 < t.ev.size) (ev1:isName t.ev.data.toList = true) (tg0:0 < t.tg.size) (tg1:isName t.tg.data.toList = true) (hg0:0 < t.g.length) (hk:chk t.g = 0) :
 Calls Tryz.prog 55 #[.agg #[.string t.ev,.slice gA gn gc,.slice aA an ac,.string t.tg]] w (RetI w (chkT t)):=by
 have hgn:=h.len.1
 have hcap:=h.cap.1
 have H1:=Lib.hid (fun W => ris_any t.ev W hs.ev)
 have H2:=Lib.hid (fun W => ris_any t.tg W hs.tg)
 have H3:=Lib.hid (fun W (hW:Below w.heap.size w W) => rcheck_any gA gn gc t.g hgn (by have:=hs.glen; omega) hs.g W (h.g.keep hW))
 have H4:=Lib.hid (fun W (hW:Below w.heap.size w W) => rcheck_acts aA an ac t.acts hs.acts hs.alen W (h.a.keep hW))
 have HN:=Lib.hid (fun h' => chkT_name (t:=t) h')
 have HO:=Lib.hid (fun a b c => chkT_nog (t:=t) a b c)
 have HX:=Lib.hid (fun a b c d => chkT_bad (t:=t) a b c d)
 have HG:=Lib.hid (fun a b c => chkT_good (t:=t) a b c)
 have HL:=Lib.hid hgn
 have hn62:(gn:Int) ≤ 4398046511104:=by have:=hs.glen; omega
 have he_okev:okN t.ev = true:=by rw [okN_pos ev0]; exact ev1
 have gev:decide (0 < t.ev.size) = true:=decide_eq_true (by omega)
 rw [ev1] at H1
 have he_oktg:okN t.tg = true:=by rw [okN_pos tg0]; exact tg1
 have gtg:decide (0 < t.tg.size) = true:=decide_eq_true (by omega)
 rw [tg1] at H2
 have HR:=Lib.hid (HG.out he_okev he_oktg hk)
 rw [hk] at H3
 have g0:decide (0 < gn) = true:=by simp; omega
 obtain ⟨r,hr⟩:∃ r,r = chkT t:=⟨_,rfl⟩
 rw [← hr] at HR ⊢
 clear HN HO HX HG HL hr hs h hgn
 clear he_okev ev0 ev1
 clear he_oktg tg0 tg1
 clear hg0 hk
 obtain ⟨ev,g,acts,tg⟩:=t
 simp only at *
 go_enter Tryz.func55,Tryz.ntmps55
 go_wp2_with (go_at_call 51; (with_reducible refine (H1.out _).mono ?_))
 rintro e w2 ⟨rfl,hb⟩
 have HB2:=Lib.hid (And.intro (KitC.one_block hb).1 (KitC.one_block hb).2.1)
 obtain ⟨c0,c1,c2,c3⟩:=cells_4 HB2.out.1
 clear hb
 go_wp2_with (go_at_call 51; (with_reducible refine (H2.out _).mono ?_))
 rintro e w3 ⟨rfl,hb⟩
 have HB3:=Lib.hid (And.intro (KitC.block_on HB2.out.1 hb) (below_two' HB2.out.2 hb))
 clear hb c0 c1 c2 c3
 obtain ⟨c0,c1,c2,c3⟩:=cells_4 HB3.out.1
 go_wp2_with (go_at_call 75; (with_reducible refine (H3.out _ HB3.out.2).mono ?_))
 rintro e w4 ⟨rfl,hb⟩
 have HB4:=Lib.hid (And.intro (KitC.block_on HB3.out.1 hb) (below_two' HB3.out.2 hb))
 clear hb c0 c1 c2 c3
 obtain ⟨c0,c1,c2,c3⟩:=cells_4 HB4.out.1
 go_wp2_with (go_at_call 54; (with_reducible refine (H4.out _ HB4.out.2).mono ?_))
 rintro e w5 ⟨rfl,hb⟩
 have HB5:=Lib.hid (And.intro (KitC.block_on HB4.out.1 hb) (below_two' HB4.out.2 hb))
 clear hb c0 c1 c2 c3
 obtain ⟨c0,c1,c2,c3⟩:=cells_4 HB5.out.1
 go_wp2_with fail
 go_ret
 exact ⟨ret_int HR.out.symm,HB5.out.2⟩
set_option maxHeartbeats 4000000 in
theorem trc_okokfault (t:Tr) (gA:Option Addr) (gn gc:Nat) (aA:Option Addr) (an ac:Nat) (w:World) (hs:SmallT t) (h:TrIn w gA gn gc aA an ac t) (ev0:0 < t.ev.size) (ev1:isName t.ev.data.toList = true) (tg0:0 < t.tg.size) (tg1:isName t.tg.data.toList = true) (hg0:0 < t.g.length) (hk:chk t.g ≠ 0) :
 Calls Tryz.prog 55 #[.agg #[.string t.ev,.slice gA gn gc,.slice aA an ac,.string t.tg]] w (RetI w (chkT t)):=by
 have hgn:=h.len.1
 have hcap:=h.cap.1
 have H1:=Lib.hid (fun W => ris_any t.ev W hs.ev)
 have H2:=Lib.hid (fun W => ris_any t.tg W hs.tg)
 have H3:=Lib.hid (fun W (hW:Below w.heap.size w W) => rcheck_any gA gn gc t.g hgn (by have:=hs.glen; omega) hs.g W (h.g.keep hW))
 have H4:=Lib.hid (fun W (hW:Below w.heap.size w W) => rcheck_acts aA an ac t.acts hs.acts hs.alen W (h.a.keep hW))
 have HN:=Lib.hid (fun h' => chkT_name (t:=t) h')
 have HO:=Lib.hid (fun a b c => chkT_nog (t:=t) a b c)
 have HX:=Lib.hid (fun a b c d => chkT_bad (t:=t) a b c d)
 have HG:=Lib.hid (fun a b c => chkT_good (t:=t) a b c)
 have HL:=Lib.hid hgn
 have hn62:(gn:Int) ≤ 4398046511104:=by have:=hs.glen; omega
 have he_okev:okN t.ev = true:=by rw [okN_pos ev0]; exact ev1
 have gev:decide (0 < t.ev.size) = true:=decide_eq_true (by omega)
 rw [ev1] at H1
 have he_oktg:okN t.tg = true:=by rw [okN_pos tg0]; exact tg1
 have gtg:decide (0 < t.tg.size) = true:=decide_eq_true (by omega)
 rw [tg1] at H2
 have HR:=Lib.hid (HX.out he_okev he_oktg (by omega) hk)
 have g0:decide (0 < gn) = true:=by simp; omega
 obtain ⟨k,hkk⟩:∃ k,k = chk t.g:=⟨_,rfl⟩
 rw [← hkk] at H3 HR hk
 have e1:(k != 0) = true:=by simpa using hk
 obtain ⟨r,hr⟩:∃ r,r = chkT t:=⟨_,rfl⟩
 rw [← hr] at HR ⊢
 clear HN HO HX HG HL hr hs h hgn
 clear he_okev ev0 ev1
 clear he_oktg tg0 tg1
 clear hg0 hkk hk
 obtain ⟨ev,g,acts,tg⟩:=t
 simp only at *
 go_enter Tryz.func55,Tryz.ntmps55
 go_wp2_with (go_at_call 51; (with_reducible refine (H1.out _).mono ?_))
 rintro e w2 ⟨rfl,hb⟩
 have HB2:=Lib.hid (And.intro (KitC.one_block hb).1 (KitC.one_block hb).2.1)
 obtain ⟨c0,c1,c2,c3⟩:=cells_4 HB2.out.1
 clear hb
 go_wp2_with (go_at_call 51; (with_reducible refine (H2.out _).mono ?_))
 rintro e w3 ⟨rfl,hb⟩
 have HB3:=Lib.hid (And.intro (KitC.block_on HB2.out.1 hb) (below_two' HB2.out.2 hb))
 clear hb c0 c1 c2 c3
 obtain ⟨c0,c1,c2,c3⟩:=cells_4 HB3.out.1
 go_wp2_with (go_at_call 75; (with_reducible refine (H3.out _ HB3.out.2).mono ?_))
 rintro e w4 ⟨rfl,hb⟩
 have HB4:=Lib.hid (And.intro (KitC.block_on HB3.out.1 hb) (below_two' HB3.out.2 hb))
 clear hb c0 c1 c2 c3
 obtain ⟨c0,c1,c2,c3⟩:=cells_4 HB4.out.1
 go_wp2_with (go_at_call 75; (with_reducible refine (H3.out _ HB4.out.2).mono ?_))
 rintro e w5 ⟨rfl,hb⟩
 have HB5:=Lib.hid (And.intro (KitC.block_on HB4.out.1 hb) (below_two' HB4.out.2 hb))
 clear hb c0 c1 c2 c3
 obtain ⟨c0,c1,c2,c3⟩:=cells_4 HB5.out.1
 go_wp2_with fail
 go_ret
 exact ⟨ret_int HR.out.symm,HB5.out.2⟩
theorem trcheck_any (t:Tr) (gA:Option Addr) (gn gc:Nat) (aA:Option Addr) (an ac:Nat) (w:World) (hs:SmallT t) (h:TrIn w gA gn gc aA an ac t) :
 Calls Tryz.prog 55 #[.agg #[.string t.ev,.slice gA gn gc,.slice aA an ac,.string t.tg]] w (RetI w (chkT t)):=by
 rcases Nat.eq_zero_or_pos t.g.length with hg0 | hg0
 ·rcases Nat.eq_zero_or_pos t.ev.size with e0 | e0
  ·rcases Nat.eq_zero_or_pos t.tg.size with f0 | f0
   ·exact trc_nilnilnone t gA gn gc aA an ac w hs h e0 f0 hg0
   ·rcases f1:isName t.tg.data.toList with _ | _
    ·exact trc_nilbad t gA gn gc aA an ac w hs h e0 f0 f1
    ·exact trc_niloknone t gA gn gc aA an ac w hs h e0 f0 f1 hg0
  ·rcases e1:isName t.ev.data.toList with _ | _
   ·exact trc_bad t gA gn gc aA an ac w hs h e0 e1
   ·rcases Nat.eq_zero_or_pos t.tg.size with f0 | f0
    ·exact trc_oknilnone t gA gn gc aA an ac w hs h e0 e1 f0 hg0
    ·rcases f1:isName t.tg.data.toList with _ | _
     ·exact trc_okbad t gA gn gc aA an ac w hs h e0 e1 f0 f1
     ·exact trc_okoknone t gA gn gc aA an ac w hs h e0 e1 f0 f1 hg0
 ·by_cases hk:chk t.g = 0
  ·rcases Nat.eq_zero_or_pos t.ev.size with e0 | e0
   ·rcases Nat.eq_zero_or_pos t.tg.size with f0 | f0
    ·exact trc_nilnilgood t gA gn gc aA an ac w hs h e0 f0 hg0 hk
    ·rcases f1:isName t.tg.data.toList with _ | _
     ·exact trc_nilbad t gA gn gc aA an ac w hs h e0 f0 f1
     ·exact trc_nilokgood t gA gn gc aA an ac w hs h e0 f0 f1 hg0 hk
   ·rcases e1:isName t.ev.data.toList with _ | _
    ·exact trc_bad t gA gn gc aA an ac w hs h e0 e1
    ·rcases Nat.eq_zero_or_pos t.tg.size with f0 | f0
     ·exact trc_oknilgood t gA gn gc aA an ac w hs h e0 e1 f0 hg0 hk
     ·rcases f1:isName t.tg.data.toList with _ | _
      ·exact trc_okbad t gA gn gc aA an ac w hs h e0 e1 f0 f1
      ·exact trc_okokgood t gA gn gc aA an ac w hs h e0 e1 f0 f1 hg0 hk
  ·rcases Nat.eq_zero_or_pos t.ev.size with e0 | e0
   ·rcases Nat.eq_zero_or_pos t.tg.size with f0 | f0
    ·exact trc_nilnilfault t gA gn gc aA an ac w hs h e0 f0 hg0 hk
    ·rcases f1:isName t.tg.data.toList with _ | _
     ·exact trc_nilbad t gA gn gc aA an ac w hs h e0 f0 f1
     ·exact trc_nilokfault t gA gn gc aA an ac w hs h e0 f0 f1 hg0 hk
   ·rcases e1:isName t.ev.data.toList with _ | _
    ·exact trc_bad t gA gn gc aA an ac w hs h e0 e1
    ·rcases Nat.eq_zero_or_pos t.tg.size with f0 | f0
     ·exact trc_oknilfault t gA gn gc aA an ac w hs h e0 e1 f0 hg0 hk
     ·rcases f1:isName t.tg.data.toList with _ | _
      ·exact trc_okbad t gA gn gc aA an ac w hs h e0 e1 f0 f1
      ·exact trc_okokfault t gA gn gc aA an ac w hs h e0 e1 f0 f1 hg0 hk
end Go.Proofs.YtckojimeglkobaaGreatDoor