/- PrintStateP, PrintPut, joined. -/
import Derived.Test.YtjfghaohogcfbaaGreatDoorMFormatSame29
import Derived.Test.YtjfghaohogcfbaaGreatDoorMFormatSame30
import Derived.Deep.Cut
import Derived.Test.YtjfghaohogcfbaaGreatDoorMFormatSame24
namespace Go.Proofs.YtjfghaohogcfbaaGreatDoor
open Go.RowKit Go.Sort CurSpec TermSpec EvalSpec ActSpec NamesSpec ExprSpec TransSpec SynSpec PrintSpec
open ShapeSpec (Sh up sf endOf SU)
set_option maxRecDepth 100000
def WTrRel (W:World) (b:Nat) (o:Int) (T0:List UInt8) (n1 m:Nat) (l:List Tt) (i:Value) (wr:World):Prop:=∃ k:Nat,k ≤ m ∧ i = .int .i64 k ∧ WrAt b o (T0 ++ (l.take k).flatMap (lineT n1)) wr ∧ Wrote b W wr
def WKdRel (W:World) (b:Nat) (o:Int) (T0:List UInt8) (m:Nat) (f:Nat → List UInt8) (l:List Nat) (i:Value) (wr:World):Prop:=∃ k:Nat,k ≤ m ∧ i = .int .i64 k ∧ WrAt b o (T0 ++ (l.take k).flatMap f) wr ∧ Wrote b W wr
theorem flat_take {α β:Type} (f:α → List β) (L:List α) (k:Nat):((L.take k).flatMap f).length ≤ (L.flatMap f).length:=by
 have:=congrArg (fun l => (l.flatMap f).length) (List.take_append_drop k L)
 simp only [List.flatMap_append,List.length_append] at this
 omega
theorem flat_part {α β:Type} (f:α → List β) {L:List α} {j:Nat} {x:α} (h:L[j]? = some x):(L.take (j + 1)).flatMap f = (L.take j).flatMap f ++ f x ∧ ((L.take j).flatMap f).length + (f x).length ≤ (L.flatMap f).length:=by
 have e2:(L.take (j + 1)).flatMap f = (L.take j).flatMap f ++ f x:=by rw [take_next h,List.flatMap_append]; simp
 have:=flat_take f L (j + 1)
 rw [e2,List.length_append] at this
 exact ⟨e2,this⟩
theorem kidN_len (sh:List Sh) (i:Nat):(kidN sh i 0).length ≤ sh.length:=by
 unfold kidN
 have:=List.length_filter_le (fun k => decide (ShapeSpec.par sh k = i)) (List.range' 0 (sh.length - 0))
 rw [List.length_range'] at this
 omega
theorem kidsA_of {sh:List Sh} {i:Nat} (hc:ShapeSpec.chk sh = 0) (hi:i < sh.length):kidsA sh i = (kidN sh i 0).map Int.ofNat:=by
 unfold kidsA
 rw [if_pos (show hasB sh i = true by simp [hasB,hc,hi])]
 exact kidN_zero i
theorem stX_bare {sh:List Sh} {l:List Ts} {i:Nat} {t:Ts} (h:SU sh sh.length) (hi:i < sh.length) (ht:l[i]? = some t) (he:emptyB sh l i = true) (hk:kidN sh i 0 = []) :
 stX sh l i = lnT ((up sh i).length + 1) [bs (wordT t.kind),⟨#[32]⟩,t.s,⟨#[59]⟩]:=by
 rw [stX_eq h hi,stT_at sh ht,if_pos he,hk]
 unfold shutU
 rw [if_neg (by rw [he]; decide)]
 unfold lnT headT
 simp [T,bs]
theorem stX_full {sh:List Sh} {l:List Ts} {i:Nat} {t:Ts} (h:SU sh sh.length) (hi:i < sh.length) (ht:l[i]? = some t) (he:emptyB sh l i = false) :
 stX sh l i = begT ((up sh i).length + 1) [bs (wordT t.kind),⟨#[32]⟩,t.s] ++ (lineA [101,110,116,101,114] ((up sh i).length + 2) t.en ++ (lineA [101,120,105,116] ((up sh i).length + 2) t.ex ++ (t.tr.flatMap (lineT ((up sh i).length + 2)) ++ ((kidN sh i 0).flatMap (stX sh l) ++ endT ((up sh i).length + 1))))):=by
 rw [stX_eq h hi,stT_at sh ht,if_neg (by rw [he]; decide)]
 unfold shutU
 rw [if_pos he]
 unfold begT headT insT endT
 simp [T,bs]
theorem trans_ln (n:Nat) (x:Tt):lnT n [txT x] = lineT n x:=by
 unfold lnT lineT
 simp [T]
set_option maxRecDepth 100000 in
set_option maxHeartbeats 16000000 in
theorem wstate_step (sh:List Sh) (l:List Ts) (H:Stand sh l) (hck:ShapeSpec.chk sh = 0) (sA:Option Addr) (n c:Nat) (W0:World) (hS:StsP W0 (.slice sA n c) (l.map Ts.sx)) (hG:SignsIn W0) (b:Nat) (hb:W0.heap.size ≤ b) (i:Nat) (hi:i < n)
 (IH:∀ k,i < k → k < n → ∀ (text:List UInt8) (w:World),Below W0.heap.size W0 w → WrAt b (((up sh k).length + 1:Nat):Int) text w → text.length + (stX sh l k).length ≤ 1000000000 →
   Calls Tryz.prog 65 #[.pointer (some ⟨b,0,none⟩),.slice sA n c,.int .i64 k] w (RetWr w b (((up sh k).length + 1:Nat):Int) (text ++ stX sh l k)))
 (text:List UInt8) (w:World) (h0:Below W0.heap.size W0 w) (h:WrAt b (((up sh i).length + 1:Nat):Int) text w) (hlen:text.length + (stX sh l i).length ≤ 1000000000) :
 Calls Tryz.prog 65 #[.pointer (some ⟨b,0,none⟩),.slice sA n c,.int .i64 i] w (RetWr w b (((up sh i).length + 1:Nat):Int) (text ++ stX sh l i)):=by
 obtain ⟨hn,hc⟩:=hS.len
 rw [List.length_map] at hn
 have hl:=H.len
 obtain ⟨t,ht,hok,-,-,hk1,hk3⟩:=H.at_ (i:=i) (by omega)
 have hup:=H.deep i (by omega)
 have hf:=H.few
 obtain ⟨bS,off,a3,n3,m3,a4,n4,m4,a5,n5,m5,rfl,hbS,d0,d1,d2,d3,d4,d5,k3,k4,k5⟩:=hS.at_ (i:=i) (s:=t.sx) (by rw [List.getElem?_map,ht]; rfl)
 have l3:n3 = t.en.length:=by rw [k3.len.1]; exact List.length_map _
 have l4:n4 = t.ex.length:=by rw [k4.len.1]; exact List.length_map _
 have l5:n5 = t.tr.length:=by rw [k5.len.1]; exact List.length_map _
 have c5:=k5.len.2
 have hE:=empty_of l sh ht
 rw [kidN_zero,List.length_map,← l3,← l4,← l5] at hE
 have hkl:=kidN_len sh i
 have f3:=hok.enf
 have f4:=hok.exf
 have f5:=hok.trf
 have hb3:n3 ≤ 8:=by omega
 have hb4:n4 ≤ 8:=by omega
 have hb5:n5 ≤ 16:=by omega
 have HKC:Hid (∀ W,Below W0.heap.size W0 W → Calls Tryz.prog 114 #[.slice (some ⟨bS,off,none⟩) n c,.int .i64 i] W (RetRowI W ((kidN sh i 0).map Int.ofNat))):=Lib.hid fun W hW => by
  have:=shkids_row (some ⟨bS,off,none⟩) n c sh i W (by rw [H.eq,← sh_of]; exact (hS.keep hW).sts) (by omega)
  rwa [kidsA_of hck (by omega)] at this
 have hkm:∀ (j k:Nat),(kidN sh i 0)[j]? = some k → i < k ∧ k < n ∧ (up sh k).length = (up sh i).length + 1:=fun j k hj => by
  have:=kidN_mem H.su (show i < sh.length by omega) (List.mem_of_getElem? hj)
  omega
 have hBARE:=fun he hk => stX_bare (l:=l) H.su (show i < sh.length by omega) ht he hk
 have hFULL:=fun he => stX_full (l:=l) H.su (show i < sh.length by omega) ht he
 have HIH:=Lib.hid (fun (j k:Nat) (hj:(kidN sh i 0)[j]? = some k) (text:List UInt8) (w:World) (a1:Below W0.heap.size W0 w) (a2:WrAt b (((up sh i).length + 1 + 1:Nat):Int) text w) (a3:text.length + (stX sh l k).length ≤ 1000000000) => (by
  obtain ⟨e1,e2,e3⟩:=hkm j k hj
  have:=IH k e1 e2 text w a1 (by rw [e3]; exact a2) a3
  rw [e3] at this
  exact this:Calls Tryz.prog 65 #[.pointer (some ⟨b,0,none⟩),.slice (some ⟨bS,off,none⟩) n c,.int .i64 k] w (RetWr w b (((up sh i).length + 1 + 1:Nat):Int) (text ++ stX sh l k))))
 obtain ⟨X,hX⟩:∃ X,X = stX sh l i:=⟨_,rfl⟩
 rw [← hX] at hlen hBARE hFULL ⊢
 obtain ⟨ks,hks⟩:∃ ks,ks = kidN sh i 0:=⟨_,rfl⟩
 rw [← hks] at hE hkl HKC hBARE hFULL HIH
 obtain ⟨em,hem⟩:∃ em,em = emptyB sh l i:=⟨_,rfl⟩
 rw [← hem] at hE hBARE hFULL
 obtain ⟨f,hf'⟩:∃ f,f = stX sh l:=⟨_,rfl⟩
 rw [← hf'] at hFULL HIH
 obtain ⟨u,hu⟩:∃ u,u = (up sh i).length:=⟨_,rfl⟩
 rw [← hu] at hup h hBARE hFULL HIH ⊢
 have hks60:ks.length ≤ 60:=by omega
 -- the state's own block
 obtain ⟨OB,hOB⟩:∃ OB:Obj,OB = .cells #[.string t.s,.int .i64 t.kind,.int .i64 t.par,.slice a3 n3 m3,.slice a4 n4 m4,.slice a5 n5 m5] 58:=⟨_,rfl⟩
 obtain ⟨W1,hW1⟩:∃ W1,w.alloc OB = W1:=⟨_,rfl⟩
 have hb1:Below w.heap.size w W1:=by rw [← hW1]; exact KitC.below_one _ _
 have hkb:W1.heap[w.heap.size]? = some OB:=by rw [← hW1]; exact heap_alloc_new _ _
 have hlt:=h.lt
 have hneb:w.heap.size ≠ b:=by omega
 rw [hOB] at hW1 hkb
 have HKB:=Lib.hid hkb
 have HW1:=Lib.hid hW1
 have HB1:=Lib.hid hb1
 have HB01:=Lib.hid (below_two' h0 hb1)
 have HWR1:=Lib.hid (h.keep hb1)
 have HX1:=Lib.hid (Wrote.of hlt hb1)
 have HLT:=Lib.hid hlt
 have HNE:=Lib.hid hneb
 have q0:=(h0.cell (p:=⟨bS,off + i * 6,none⟩) hbS).trans d0
 have q1:=(h0.cell (p:=⟨bS,off + i * 6 + 1,none⟩) hbS).trans d1
 have q2:=(h0.cell (p:=⟨bS,off + i * 6 + 2,none⟩) hbS).trans d2
 have q3:=(h0.cell (p:=⟨bS,off + i * 6 + 3,none⟩) hbS).trans d3
 have q4:=(h0.cell (p:=⟨bS,off + i * 6 + 4,none⟩) hbS).trans d4
 have q5:=(h0.cell (p:=⟨bS,off + i * 6 + 5,none⟩) hbS).trans d5
 have HA3:=Lib.hid (fun W (hW:Below W0.heap.size W0 W) => k3.keep hW)
 have HA4:=Lib.hid (fun W (hW:Below W0.heap.size W0 W) => k4.keep hW)
 have HT5:=Lib.hid (fun W (hW:Below W0.heap.size W0 W) => k5.keep hW)
 have HG:=Lib.hid (fun W (hW:Below W0.heap.size W0 W) => hG.keep hW)
 have HB0:=Lib.hid hb
 have HOK:=Lib.hid hok
 have HLEN:=Lib.hid hlen
 have HUP:Hid (u ≤ 11):=Lib.hid hup
 have HBARE:=Lib.hid hBARE
 have HFULL:=Lib.hid hFULL
 have HE:=Lib.hid hE
 have L5:=Lib.hid l5
 have i1:(i:Int) < n:=by omega
 have i2:(n:Int) ≤ c:=by omega
 obtain ⟨nm,kind,par,ten,tex,ttr⟩:=t
 simp only [Ts.sx] at q0 q1 q2 HBARE HFULL HKB HW1 HOK L5 HA3 HA4 HT5
 clear h hG H ht hok k3 k4 k5 l3 l4 l5 hW1 hb1 hkb hOB OB hX hks hem hf' hu hkm hBARE hFULL IH hS hn hl hf hE hlen hup hlt hneb h0 d0 d1 d2 d3 d4 d5 hkl f3 f4 f5 hck hb
 go_enter Tryz.func65,Tryz.ntmps65
 go_wp2_with (rw [HW1.out]; go_at_call 114; (with_reducible refine (HKC.out _ HB01.out).mono ?_))
 rintro e2 w2 hx
 obtain ⟨A7,n7,c7,rfl,hn7,hrow⟩:=hx
 rw [List.length_map] at hn7
 have hb2:=hrow.2
 have HB2:=Lib.hid hb2
 have HB02:=Lib.hid (below_two' HB01.out hb2)
 have HWR2:=Lib.hid (HWR1.out.keep hb2)
 have HX2:=Lib.hid (HX1.out.call HLT.out hb2)
 have hk2:=KitC.block_on HKB.out hb2
 have HK2:=Lib.hid hk2
 have HROW:=Lib.hid hrow
 have HN7:=Lib.hid hn7
 have hn60:n7 ≤ 60:=by omega
 have hz2:w.heap.size < w2.heap.size:=(Array.getElem?_eq_some_iff.1 hk2).1
 have HZ2:=Lib.hid hz2
 obtain ⟨p0,p1,p2,p3,p4,p5⟩:=cells_6 hk2
 have HE2:Hid (em = decide (n3 + n4 + n5 + n7 = 0)):=Lib.hid (by
  rw [HE.out,← hn7]
  by_cases hz:n3 + n4 + n5 + n7 = 0
  ·have e1:n3 = 0:=by omega
   have e2:n4 = 0:=by omega
   have e3:n5 = 0:=by omega
   have e4:n7 = 0:=by omega
   simp [e1,e2,e3,e4]
  ·rw [decide_eq_false hz]
   by_cases e1:n3 = 0
   ·by_cases e2:n4 = 0
    ·by_cases e3:n5 = 0
     ·have e4:¬ n7 = 0:=by omega
      simp [e4]
     ·simp [e3]
    ·simp [e2]
   ·simp [e1])
 clear hrow hb2 hk2 hn7 hz2 q0 q1 q2 q3 q4 q5
 obtain ⟨wd,hwd⟩:∃ wd,wd = bs (wordT kind):=⟨_,rfl⟩
 have HWD:Hid (∀ W,Calls Tryz.prog 115 #[.int .i64 kind] W (SameS W wd)):=Lib.hid (fun W => by rw [hwd]; exact word_any kind W)
 rw [← hwd] at HBARE HFULL
 clear hwd
 by_cases hz:n3 + n4 + n5 + n7 = 0
 ·have HXE:Hid (X = lnT (u + 1) [wd,⟨#[32]⟩,nm,⟨#[59]⟩]):=Lib.hid (HBARE.out (by rw [HE2.out,decide_eq_true hz]) (List.eq_nil_of_length_eq_zero (by rw [← HN7.out]; omega)))
  have g1:((n3:Int) + n4 + n5 + n7 == 0) = true:=by simp; omega
  have HC:Hid (∀ W k,k = W.heap.size → WrAt b ((u + 1:Nat):Int) text W → Calls Tryz.prog 62 #[.pointer (some ⟨b,0,none⟩),.slice (some ⟨k,0,none⟩) 4 4] (W.alloc (.cells #[.string wd,.string ⟨#[32]⟩,.string nm,.string ⟨#[59]⟩] 9)) (RetWr W b ((u + 1:Nat):Int) (text ++ X))):=Lib.hid fun W k hk hW => by
   rw [HXE.out]
   exact line_lit b (u + 1) text [wd,⟨#[32]⟩,nm,⟨#[59]⟩] _ k 4 W hk hW rfl rfl (by have:=HUP.out; omega) (by omega) (by have:=HLEN.out; rw [HXE.out] at this; omega)
  have HC2:Hid (Calls Tryz.prog 62 #[.pointer (some ⟨b,0,none⟩),.slice (some ⟨w2.heap.size,0,none⟩) 4 4] (w2.alloc (.cells #[.string wd,.string ⟨#[32]⟩,.string nm,.string ⟨#[59]⟩] 9)).drew (RetWr w2.drew b ((u + 1:Nat):Int) (text ++ X))):=Lib.hid (HC.out w2.drew w2.heap.size rfl HWR2.out)
  clear hz HC HFULL HBARE HIH HA3 HA4 HT5 HG
  go_wp2_with fail
  go_region_held3 (fun w' => w'.cell? ⟨w.heap.size,0,none⟩ = some (.string nm) ∧ w'.cell? ⟨w.heap.size,1,none⟩ = some (.int .i64 kind)) (go_keep)
   ((first
     | (go_at_call 115; (with_reducible refine (HWD.out _).mono ?_); rintro e w' ⟨rfl,rfl⟩)
     | (go_at_call 62; (with_reducible refine HC2.out.mono ?_); rintro e w3 ⟨rfl,h3,hx3⟩; have HW3:=Lib.hid h3; have HX3:=Lib.hid (HX2.out.drew.trans hx3); have hk3:=hx3.at_ (show w2.drew.heap[w.heap.size]? = _ from HK2.out) HNE.out (by decide); obtain ⟨r0,r1,-,-,-,-⟩:=cells_6 hk3; clear h3 hx3)))
  go_wp2_with fail
  go_end0
  exact ⟨rfl,HW3.out,HX3.out⟩
 ·have he:em = false:=by rw [HE2.out,decide_eq_false hz]
  have hXE:=HFULL.out he
  have g1:((n3:Int) + n4 + n5 + n7 == 0) = false:=by simp; omega
  obtain ⟨T1,hT1⟩:∃ T1,T1 = text ++ begT (u + 1) [wd,⟨#[32]⟩,nm]:=⟨_,rfl⟩
  obtain ⟨T2,hT2⟩:∃ T2,T2 = T1 ++ lineA [101,110,116,101,114] (u + 2) ten:=⟨_,rfl⟩
  obtain ⟨T3,hT3⟩:∃ T3,T3 = T2 ++ lineA [101,120,105,116] (u + 2) tex:=⟨_,rfl⟩
  obtain ⟨T4,hT4⟩:∃ T4,T4 = T3 ++ ttr.flatMap (lineT (u + 2)):=⟨_,rfl⟩
  obtain ⟨T5,hT5⟩:∃ T5,T5 = T4 ++ ks.flatMap f:=⟨_,rfl⟩
  have hTX:text ++ X = T5 ++ endT (u + 1):=by rw [hT5,hT4,hT3,hT2,hT1,hXE]; simp only [List.append_assoc]
  have hL:T5.length + (endT (u + 1)).length ≤ 1000000000:=by
   have:=HLEN.out
   rw [← List.length_append,hTX,List.length_append] at this
   exact this
  have hL4:T4.length + (ks.flatMap f).length ≤ 1000000000:=by rw [hT5,List.length_append] at hL; omega
  have hL3:T3.length + (ttr.flatMap (lineT (u + 2))).length ≤ 1000000000:=by rw [hT4,List.length_append] at hL4; omega
  have hL2:T2.length + (lineA [101,120,105,116] (u + 2) tex).length ≤ 1000000000:=by rw [hT3,List.length_append] at hL3; omega
  have hL1:T1.length + (lineA [101,110,116,101,114] (u + 2) ten).length ≤ 1000000000:=by rw [hT2,List.length_append] at hL2; omega
  have hL0:text.length + (begT (u + 1) [wd,⟨#[32]⟩,nm]).length ≤ 1000000000:=by rw [hT1,List.length_append] at hL1; omega
  have HB:Hid (∀ W k,k = W.heap.size → WrAt b ((u + 1:Nat):Int) text W → Calls Tryz.prog 61 #[.pointer (some ⟨b,0,none⟩),.slice (some ⟨k,0,none⟩) 3 3] (W.alloc (.cells #[.string wd,.string ⟨#[32]⟩,.string nm] 9)) (RetWr W b ((u + 1 + 1:Nat):Int) T1)):=Lib.hid fun W k hk hW => by
   rw [hT1]
   exact beg_lit b (u + 1) text [wd,⟨#[32]⟩,nm] _ k 3 W hk hW rfl rfl (by have:=HUP.out; omega) (by omega) (by omega)
  have HB2c:Hid (Calls Tryz.prog 61 #[.pointer (some ⟨b,0,none⟩),.slice (some ⟨w2.heap.size,0,none⟩) 3 3] (w2.alloc (.cells #[.string wd,.string ⟨#[32]⟩,.string nm] 9)).drew (RetWr w2.drew b ((u + 1 + 1:Nat):Int) T1)):=Lib.hid (HB.out w2.drew w2.heap.size rfl HWR2.out)
  have HTX:=Lib.hid hTX
  have HT1:=Lib.hid hT1
  have HT2:=Lib.hid hT2
  have HT3:=Lib.hid hT3
  have HT4:=Lib.hid hT4
  have HT5':=Lib.hid hT5
  have HL:=Lib.hid (And.intro hL (And.intro hL4 (And.intro hL3 (And.intro hL2 hL1))))
  have HBW2:Hid (Below W0.heap.size W0 w2.drew):=Lib.hid (HB02.out.drew)
  clear hz he hXE hTX hT1 hT2 hT3 hT4 hT5 hL hL4 hL3 hL2 hL1 hL0 HB HFULL HBARE
  go_wp2_with fail
  go_region_held3 (fun w' => w'.cell? ⟨w.heap.size,0,none⟩ = some (.string nm) ∧ w'.cell? ⟨w.heap.size,1,none⟩ = some (.int .i64 kind)) (go_keep)
   ((first
     | (go_at_call 115; (with_reducible refine (HWD.out _).mono ?_); rintro e w' ⟨rfl,rfl⟩)
     | (go_at_call 61; (with_reducible refine HB2c.out.mono ?_); rintro e w3 ⟨rfl,h3,hx3⟩; have HW3:=Lib.hid h3; have HX3:=Lib.hid hx3; have hk3:=hx3.at_ (show w2.drew.heap[w.heap.size]? = _ from HK2.out) HNE.out (by decide); have HK3:=Lib.hid hk3; obtain ⟨r0,r1,r2,r3,r4,r5⟩:=cells_6 hk3; clear h3 hx3 hk3)))
  have HB3:=Lib.hid (HBW2.out.trans (HX3.out.below.mono HB0.out))
  have HX2':=Lib.hid (HX2.out.drew.trans HX3.out)
  clear HB2c HWD p0 p1 p2 p3 p4 p5
  -- the acts
  have HC3:Hid (Calls Tryz.prog 116 #[.pointer (some ⟨b,0,none⟩),.string ⟨#[101,110,116,101,114]⟩,.slice a3 n3 m3] w3 (RetWr w3 b ((u + 2:Nat):Int) T2)):=Lib.hid (by
   rw [HT2.out]
   exact wacts_any b (u + 2) T1 ⟨#[101,110,116,101,114]⟩ a3 n3 m3 ten w3 HW3.out (HA3.out _ HB3.out) HOK.out.en HOK.out.enf (HG.out _ HB3.out) (by have:=HUP.out; omega) (by have:=HL.out.2.2.2.2; exact Nat.le_trans this (by decide)))
  go_wp2_with (go_at_call 116; (with_reducible refine HC3.out.mono ?_))
  rintro e4 w4 ⟨rfl,h4,hx4⟩
  have HW4:=Lib.hid h4
  have HX4:=Lib.hid (HX3.out.trans hx4)
  have hk4:=hx4.at_ HK3.out HNE.out (by decide)
  have HK4:=Lib.hid hk4
  have HB4:=Lib.hid (HB3.out.trans (hx4.below.mono HB0.out))
  clear r0 r1 r2 r3 r4 r5 h4 hx4 HC3
  obtain ⟨r0,r1,r2,r3,r4,r5⟩:=cells_6 hk4
  clear hk4
  have HC4:Hid (Calls Tryz.prog 116 #[.pointer (some ⟨b,0,none⟩),.string ⟨#[101,120,105,116]⟩,.slice a4 n4 m4] w4 (RetWr w4 b ((u + 2:Nat):Int) T3)):=Lib.hid (by
   rw [HT3.out]
   exact wacts_any b (u + 2) T2 ⟨#[101,120,105,116]⟩ a4 n4 m4 tex w4 HW4.out (HA4.out _ HB4.out) HOK.out.ex HOK.out.exf (HG.out _ HB4.out) (by have:=HUP.out; omega) (by have:=HL.out.2.2.2.1; exact Nat.le_trans this (by decide)))
  go_wp2_with (go_at_call 116; (with_reducible refine HC4.out.mono ?_))
  rintro e5 w5 ⟨rfl,h5,hx5⟩
  have HW5:=Lib.hid h5
  have HX5:=Lib.hid (HX4.out.trans hx5)
  have hk5:=hx5.at_ HK4.out HNE.out (by decide)
  have HK5:=Lib.hid hk5
  have HB5:=Lib.hid (HB4.out.trans (hx5.below.mono HB0.out))
  clear r0 r1 r2 r3 r4 r5 h5 hx5 HC4
  obtain ⟨r0,r1,r2,r3,r4,r5⟩:=cells_6 hk5
  clear hk5
  go_wp2_with fail
  -- the transitions
  go_loopw [9,10,11,63] (fun _ _ _ i wr => WTrRel w2.drew b ((u + 2:Nat):Int) T3 (u + 2) n5 ttr i wr) (fun _ _ _ i _ => n5 - (intOf i).toNat)
  case atStart => exact ⟨0,Nat.zero_le _,rfl,by rw [List.take_zero]; simpa using HW5.out,HX5.out⟩
  case round =>
   obtain ⟨k,hk,rfl,hw,hx⟩:=hrel
   have HW:=Lib.hid hw
   have HX:=Lib.hid hx
   have hbk:=HBW2.out.trans (hx.below.mono HB0.out)
   have HBK:=Lib.hid hbk
   have HKW:=Lib.hid (hx.at_ (show w2.drew.heap[w.heap.size]? = _ from HK2.out) HNE.out (by decide))
   clear r0 r1 r2 r3 r4 r5 hw hx
   obtain ⟨r0,r1,r2,r3,r4,r5⟩:=cells_6 HKW.out
   by_cases hlt:k < n5
   ·obtain ⟨x,hx⟩:∃ x,ttr[k]? = some x:=get_some (by rw [← L5.out]; exact hlt)
    obtain ⟨bt,ot,gA,gn,gc,aA,an,ac,rfl,hbt,e0,e1,e2,e3,htr⟩:=(HT5.out wr hbk).at_ (i:=k) (t:=x.tr) (by rw [List.getElem?_map,hx]; rfl)
    have hxk:=HOK.out.tr x (List.mem_of_getElem? hx)
    have HP:Hid (Calls Tryz.prog 117 #[.agg #[.string x.ev,.slice gA gn gc,.slice aA an ac,.string x.tg]] (wr.alloc (.cells #[.string x.ev,.slice gA gn gc,.slice aA an ac,.string x.tg] 65)) (RetPut (wr.alloc (.cells #[.string x.ev,.slice gA gn gc,.slice aA an ac,.string x.tg] 65)) (txT x) 0)) :=
     Lib.hid (tput_ok x hxk gA gn gc aA an ac _ (trans_fits hxk) (htr.alloc _) ((HG.out _ hbk).alloc _))
    obtain ⟨ev,hev⟩:∃ ev,ev = x.ev:=⟨_,rfl⟩
    obtain ⟨tg,htg⟩:∃ tg,tg = x.tg:=⟨_,rfl⟩
    obtain ⟨R,hR⟩:∃ R,R = txT x:=⟨_,rfl⟩
    simp only [Tt.tr] at e0 e3
    rw [← hev] at e0
    rw [← htg] at e3
    rw [← hev,← htg,← hR] at HP
    obtain ⟨f1,f2⟩:=flat_part (lineT (u + 2)) hx
    have hLn:=trans_ln (u + 2) x
    rw [← hR] at hLn
    have HC:Hid (∀ W k',k' = W.heap.size → WrAt b ((u + 2:Nat):Int) (T3 ++ (ttr.take k).flatMap (lineT (u + 2))) W → Calls Tryz.prog 62 #[.pointer (some ⟨b,0,none⟩),.slice (some ⟨k',0,none⟩) 1 1] (W.alloc (.cells #[.string R] 9)) (RetWr W b ((u + 2:Nat):Int) (T3 ++ (ttr.take (k + 1)).flatMap (lineT (u + 2))))):=Lib.hid fun W k' hk' hW => by
     have h1:=line_lit b (u + 2) _ [R] #[.string R] k' 1 W hk' hW rfl rfl (by have:=HUP.out; omega) (by omega) (by rw [hLn]; have:=HL.out.2.2.1; rw [List.length_append]; omega)
     rw [hLn,List.append_assoc,← f1] at h1
     exact h1
    clear hx htr hxk hev htg hR f1 f2 hLn hbk
    go_wp2_with (go_at_call 117; (with_reducible refine HP.out.mono ?_))
    rintro e7 w7 ⟨rfl,hb7⟩
    have HB7:=Lib.hid (below_two' (KitC.below_one _ _) hb7)
    have HC7:=Lib.hid (HC.out w7 w7.heap.size rfl (HW.out.keep HB7.out))
    have HX7:=Lib.hid (HX.out.trans (Wrote.of HW.out.lt HB7.out))
    clear hb7 HC
    go_wp2_with (go_at_call 62; (with_reducible refine HC7.out.mono ?_))
    rintro e8 w8 ⟨rfl,h8,hx8⟩
    have HW8:=Lib.hid h8
    have HX8:=Lib.hid (HX7.out.trans hx8)
    clear h8 hx8
    go_wp2_with fail
    go_roundw
    case rel => exact ⟨k + 1,by omega,by go_num,HW8.out,HX8.out⟩
    case measure => simp [intOf]; omega
   ·obtain rfl:k = n5:=by omega
    have HW9:Hid (WrAt b ((u + 2:Nat):Int) T4 wr):=Lib.hid (by
     have:=HW.out
     rw [List.take_of_length_le (by rw [← L5.out]; exact Nat.le_refl _),← HT4.out] at this
     exact this)
    have HX9:=Lib.hid HX.out
    clear HW HX hbk r0 r1 r2 r3 r4 r5
    go_wp2_with fail
    go_loopw [13,79] (fun _ i wr => WKdRel w2.drew b ((u + 2:Nat):Int) T4 n7 f ks i wr) (fun _ i _ => n7 - (intOf i).toNat)
    case atStart => exact ⟨0,Nat.zero_le _,rfl,by rw [List.take_zero]; simpa using HW9.out,HX9.out⟩
    case round =>
     obtain ⟨j,hj,rfl,hw,hx⟩:=hrel
     have HWj:=Lib.hid hw
     have HXj:=Lib.hid hx
     have hbj:=HBW2.out.trans (hx.below.mono HB0.out)
     have HRD:=Lib.hid (hx.ints (W:=W1) (v:=.slice A7 n7 c7) (xs:=ks.map Int.ofNat) (show RowI W1 w2.drew _ _ from ⟨HROW.out.1,HROW.out.2.drew⟩) (Nat.lt_of_lt_of_le HLT.out HB1.out.size))
     clear hw hx
     by_cases hlt:j < n7
     ·obtain ⟨kk,hkk⟩:∃ kk,ks[j]? = some kk:=get_some (by rw [← HN7.out]; exact hlt)
      obtain ⟨A8,n8,c8,heq,hn8,hc8,hcl⟩:=HRD.out.ints
      cases heq
      obtain ⟨b8,o8,rfl,hb8,hcell⟩:=hcl (by omega)
      have hcc:wr.cell? ⟨b8,o8 + j,none⟩ = some (.int .i64 (kk:Int)):=hcell j (Int.ofNat kk) (by rw [List.getElem?_map,hkk]; rfl)
      obtain ⟨f1,f2⟩:=flat_part f hkk
      have h1:=HIH.out j kk hkk _ wr hbj HWj.out (by have:=HL.out.2.1; rw [List.length_append]; omega)
      rw [List.append_assoc,← f1] at h1
      have HC:=Lib.hid h1
      have hjc:(j:Int) < n7:=by omega
      clear hkk hcl hcell f1 f2 h1 hbj hn8
      go_wp2_with (go_at_call 65; (with_reducible refine HC.out.mono ?_))
      rintro e8 w8 ⟨rfl,h8,hx8⟩
      have HW8:=Lib.hid h8
      have HX8:=Lib.hid (HXj.out.trans hx8)
      clear h8 hx8
      go_wp2_with fail
      go_roundw
      case rel => exact ⟨j + 1,by omega,by go_num,HW8.out,HX8.out⟩
      case measure => simp [intOf]; omega
     ·obtain rfl:j = n7:=by omega
      have hw5:=HWj.out
      rw [List.take_of_length_le (by rw [← HN7.out]; exact Nat.le_refl _),← HT5'.out] at hw5
      have HC:=Lib.hid (wend_any b (u + 1) T5 wr hw5 (by have:=HUP.out; omega) (by have:=HL.out.1; omega))
      clear hw5 hbj HRD
      go_wp2_with (go_at_call 66; (with_reducible refine HC.out.mono ?_))
      rintro e8 w8 ⟨rfl,h8,hx8⟩
      have HW8:=Lib.hid h8
      have HX8:=Lib.hid (HXj.out.trans hx8)
      clear h8 hx8
      go_wp2_with fail
      go_end0
      exact ⟨rfl,by rw [HTX.out]; exact HW8.out,HX2.out.drew.trans HX8.out⟩
theorem wstate_any (sh:List Sh) (l:List Ts) (H:Stand sh l) (hck:ShapeSpec.chk sh = 0) (sA:Option Addr) (n c:Nat) (W0:World) (hS:StsP W0 (.slice sA n c) (l.map Ts.sx)) (hG:SignsIn W0) (b:Nat) (hb:W0.heap.size ≤ b) :
 ∀ (N i:Nat),n ≤ i + N → i < n → ∀ (text:List UInt8) (w:World),Below W0.heap.size W0 w → WrAt b (((up sh i).length + 1:Nat):Int) text w → text.length + (stX sh l i).length ≤ 1000000000 →
   Calls Tryz.prog 65 #[.pointer (some ⟨b,0,none⟩),.slice sA n c,.int .i64 i] w (RetWr w b (((up sh i).length + 1:Nat):Int) (text ++ stX sh l i)):=by
 intro N
 induction N with
 | zero => intro i h1 h2; omega
 | succ N ih =>
   intro i h1 h2 text w a1 a2 a3
   exact wstate_step sh l H hck sA n c W0 hS hG b hb i h2 (fun k e1 e2 => ih k (by omega) e2) text w a1 a2 a3
end Go.Proofs.YtjfghaohogcfbaaGreatDoor
namespace Go.Proofs.YtjfghaohogcfbaaGreatDoor
open Go.RowKit Go.Sort CurSpec TermSpec EvalSpec ActSpec NamesSpec ExprSpec TransSpec SynSpec PrintSpec
open ShapeSpec (Sh up sf endOf SU)
section
variable (sh:List Sh) (l:List Ts)
def stsTo (k:Nat):List UInt8:=(List.range k).flatMap fun i => PrintSpec.stT sh l i ++ closT sh l i
theorem stsTo_all:stsTo sh l l.length = stsT sh l:=rfl
end
theorem wA_le {ts:List Ta} (h:∀ t ∈ ts,t.Ok):wA ts ≤ 41 * ts.length:=by
 induction ts with
 | nil => simp [wA]
 | cons a r ih =>
   have h1:=ih fun t ht => h t (by simp [ht])
   have h2:a.ac.x.length ≤ 40:=by
    unfold Ta.ac
    rcases ha:a.any with _ | _
    ·exact ta_few (h a (by simp)) ha
    ·simp
   unfold wA at h1 ⊢
   rw [List.map_cons,List.sum_cons,List.length_cons]
   omega
theorem wT_le {x:Tt} (h:x.Ok):wT x ≤ 369:=by
 have h1:=wA_le h.ts
 have h2:=h.few
 have h3:(gFlat x.g).length ≤ 40:=by
  have hg:=h.g
  cases hx:x.g with
  | none => simp [gFlat]
  | some e => exact ex_few (hg e hx).2
 unfold wT
 omega
theorem sum_le {α:Type} (f:α → Nat) (A:Nat):∀ {L:List α},(∀ x ∈ L,f x ≤ A) → (L.map f).sum ≤ A * L.length
 | [],_ => by simp
 | x :: r,h => by
   have h1:=h x (by simp)
   have h2:=sum_le f A (L:=r) fun y hy => h y (by simp [hy])
   rw [List.map_cons,List.sum_cons,List.length_cons,Nat.mul_add]
   omega
theorem wS_le {t:Ts} (h:t.Ok):wS t ≤ 6560:=by
 have h1:=wA_le h.en
 have h2:=wA_le h.ex
 have h3:=sum_le wT 369 (L:=t.tr) fun x hx => wT_le (h.tr x hx)
 have:=h.enf
 have:=h.exf
 have:=h.trf
 unfold wS
 omega
section
variable {sh:List Sh} {l:List Ts}
theorem state_len (H:Stand sh l) {i:Nat} (hi:i < sh.length):(PrintSpec.stT sh l i ++ closT sh l i).length ≤ 460000:=by
 have h1:=(stT_w H hi).1
 obtain ⟨t,ht,hok,-⟩:=H.at_ hi
 rw [ht] at h1
 simp only [Option.elim] at h1
 have:=wS_le hok
 omega
theorem stsTo_len (H:Stand sh l) {k:Nat} (hk:k ≤ sh.length):(stsTo sh l k).length ≤ 460000 * k:=by
 have:=flat_le (fun i => PrintSpec.stT sh l i ++ closT sh l i) (fun _ => 0) 460000 0 (L:=List.range k) fun i hi => by
  have:=state_len H (i:=i) (by have:=List.mem_range.1 hi; omega)
  omega
 rw [List.length_range] at this
 unfold stsTo
 omega
end
end Go.Proofs.YtjfghaohogcfbaaGreatDoor