/- ScanNext, ScanRead, joined. -/
import Derived.Test.YtjfghaohogcfbaaGreatDoorMFormatSame13
import Derived.RegionTactic
import Derived.ChangeAlike
import Derived.Deep.LoopGhost
namespace Go.Proofs.YtjfghaohogcfbaaGreatDoor
open Go.RowKit ScanSpec
set_option maxRecDepth 100000
def RdrAt (w:World) (B:Nat) (r:ByteArray) (a b:Int):Prop:=w.heap[B]? = some (.cells #[.string r,.int .i64 a,.int .i64 b] 86 (0,0))
theorem RdrAt.lt {w:World} {B:Nat} {r:ByteArray} {a b:Int} (h:RdrAt w B r a b):B < w.heap.size:=(Array.getElem?_eq_some_iff.1 h).1
def PassPost (w:World) (B:Nat) (r:ByteArray) (n:Nat) (a b:Int) (e:Ending) (w':World):Prop:=e = .returned (.tuple #[]) ∧ RdrAt w' B (r.extract n r.size) a (b + n) ∧ w.grownBy w' (some B)
set_option maxHeartbeats 1000000 in
theorem pass_any (B:Nat) (r:ByteArray) (n:Nat) (a b:Int) (w:World) (h:RdrAt w B r a b) (hn:n ≤ r.size) (hr:r.size ≤ 9223372036854775807) (hb0:0 ≤ b) (hb:b + n ≤ 9223372036854775807) :
 Calls Tryz.prog 86 #[.pointer (some ⟨B,0,none⟩),.int .i64 n] w (PassPost w B r n a b):=by
 have hI:(n:Int) ≤ (r.size:Int):=by omega
 have h1:RdrAt (w.setCell ⟨B,0,none⟩ (.string (r.extract n r.size))) B (r.extract n r.size) a b:=by
  have:=block_setCell' h 0 (.string (r.extract n r.size))
  exact this
 have h2:RdrAt ((w.setCell ⟨B,0,none⟩ (.string (r.extract n r.size))).setCell ⟨B,2,none⟩ (.int .i64 (b + n))) B (r.extract n r.size) a (b + n):=by
  have:=block_setCell' h1 2 (.int .i64 (b + n))
  exact this
 have c0:w.cell? ⟨B,0,none⟩ = some (.string r):=cell_of_block' h (i:=0) rfl
 have f0:=free_of_block' h 0
 have c2:(w.setCell ⟨B,0,none⟩ (.string (r.extract n r.size))).cell? ⟨B,2,none⟩ = some (.int .i64 b):=cell_of_block' h1 (i:=2) rfl
 have f2:=free_of_block' h1 2
 have HR:Hid (PassPost w B r n a b (.returned (.tuple #[])) ((w.setCell ⟨B,0,none⟩ (.string (r.extract n r.size))).setCell ⟨B,2,none⟩ (.int .i64 (b + n)))) :=
  Lib.hid ⟨rfl,h2,but_set (but_set (but_refl w _) 0 _) 2 _⟩
 clear h h1 h2
 go_enter Tryz.func86,Tryz.ntmps86
 go_wp2_with fail
 go_end0
 exact HR.out
def StandsAt (w:World) (B:Nat) (s:ByteArray) (j:Nat):Prop:=RdrAt w B (s.extract j s.size) (pos s.data.toList j).1 (pos s.data.toList j).2
theorem stands_on {w:World} {B:Nat} {s r:ByteArray} {j n:Nat} {a b:Int} (h:RdrAt w B (r.extract n r.size) a (b + n)) (hr:r = s.extract j s.size) (hp:pos s.data.toList (j + n) = (a,b + n)):StandsAt w B s (j + n):=by
 subst hr
 rw [extract_extract] at h
 unfold StandsAt
 rw [hp]
 exact h
def SkipRel (w:World) (B:Nat) (s:ByteArray) (i k:Nat) (wr:World):Prop :=
 ∃ j,j ≤ s.size ∧ k = s.size - j ∧ gap s.data.toList j = gap s.data.toList i ∧ StandsAt wr B s j ∧ w.grownBy wr (some B)
def SkipPost (w:World) (B:Nat) (s:ByteArray) (i:Nat) (e:Ending) (w':World):Prop:=e = .returned (.tuple #[]) ∧ StandsAt w' B s (gap s.data.toList i) ∧ w.grownBy w' (some B)
theorem skip_stop {w wr:World} {B i j k:Nat} {s:ByteArray} (_hk:k = s.size - j) (hg:gap s.data.toList j = gap s.data.toList i) (hR:StandsAt wr B s j) (hb:w.grownBy wr (some B)) (h4:¬ cls s.data.toList j = 4) (h5:¬ cls s.data.toList j = 5) :
 SkipPost w B s i (.returned (.tuple #[])) wr:=by
 rw [gap_stop h4 h5] at hg
 exact ⟨rfl,hg ▸ hR,hb⟩
theorem skip_blank {w wr w2:World} {B i j k:Nat} {s r:ByteArray} {a b:Int} (hj:j < s.size) (_hk:k = s.size - j) (hg:gap s.data.toList j = gap s.data.toList i) (hr:r = s.extract j s.size) (ha:(pos s.data.toList j) = (a,b)) (hb:w.grownBy wr (some B))
 (h4:cls s.data.toList j = 4) (h10:∀ c,s.data.toList[j]? = some c → c.toNat ≠ 10) (h:RdrAt w2 B (r.extract 1 r.size) a (b + (1:Nat))) (hb2:wr.grownBy w2 (some B)):SkipRel w B s i (s.size - (j + 1)) w2:=by
 refine ⟨j + 1,by omega,rfl,(gap_blank h4).trans hg,stands_on h hr ?_,but_trans hb hb2⟩
 have hc:=byte_at' s j hj
 rw [pos_next hc,if_neg (h10 _ hc),ha]; rfl
theorem skip_line {w wr w2:World} {B i j k:Nat} {s r:ByteArray} {a b:Int} (hj:j < s.size) (_hk:k = s.size - j) (hg:gap s.data.toList j = gap s.data.toList i) (hr:r = s.extract j s.size) (ha:(pos s.data.toList j) = (a,b)) (hb:w.grownBy wr (some B))
 (h4:cls s.data.toList j = 4) (h10:∀ c,s.data.toList[j]? = some c → c.toNat = 10) (h:RdrAt w2 B (r.extract 1 r.size) (a + 1) 1) (hb2:wr.grownBy w2 (some B)):SkipRel w B s i (s.size - (j + 1)) w2:=by
 refine ⟨j + 1,by omega,rfl,(gap_blank h4).trans hg,?_,but_trans hb hb2⟩
 have hc:=byte_at' s j hj
 unfold StandsAt
 rw [pos_next hc,if_pos (h10 _ hc),ha]
 subst hr
 rw [extract_extract] at h
 exact h
theorem skip_remark {w wr w2:World} {B i j k n:Nat} {s r:ByteArray} {a b:Int} (hj:j < s.size) (hk:k = s.size - j) (hg:gap s.data.toList j = gap s.data.toList i) (hr:r = s.extract j s.size) (ha:(pos s.data.toList j) = (a,b)) (hb:w.grownBy wr (some B))
 (h5:cls s.data.toList j = 5) (hn:n = run notNl r.data.toList) (h:RdrAt w2 B (r.extract n r.size) a (b + n)) (hb2:wr.grownBy w2 (some B)):SkipRel w B s i (s.size - (j + n)) w2 ∧ s.size - (j + n) < k:=by
 have h1:=gap_past h5
 have h2:=cls_5_run h5
 have e:run notNl (s.data.toList.drop j) = n:=by rw [hn,hr,extract_drop]
 rw [e] at h1 h2
 have hle:=run_le notNl (s.data.toList.drop j)
 rw [e,List.length_drop,size_list'] at hle
 exact ⟨⟨j + n,by omega,rfl,h1.1.trans hg,stands_on h hr (by rw [h1.2,ha]),but_trans hb hb2⟩,by omega⟩
set_option maxHeartbeats 4000000 in
theorem skip_any (B i:Nat) (s:ByteArray) (w:World) (hi:i ≤ s.size) (hs:s.size ≤ 9223372036854775800) (h:StandsAt w B s i):Calls Tryz.prog 84 #[.pointer (some ⟨B,0,none⟩)] w (SkipPost w B s i):=by
 have HS:=Lib.hid h
 clear h
 go_enter Tryz.func84,Tryz.ntmps84
 go_wp2_with fail
 go_loopg [6] (s.size - i) (fun k u wr => SkipRel w B s i k wr)
 case atStart => exact ⟨i,hi,rfl,rfl,HS.out,but_refl _ _⟩
 case round =>
  obtain ⟨j,hj,hk,hg,hR,hb⟩:=hrel
  have hpb:=pos_bd s.data.toList j
  obtain ⟨a,ha⟩:∃ a,a = (pos s.data.toList j).1:=⟨_,rfl⟩
  obtain ⟨b,hbb⟩:∃ b,b = (pos s.data.toList j).2:=⟨_,rfl⟩
  have HA:Hid (pos s.data.toList j = (a,b)):=Lib.hid (by rw [ha,hbb])
  rw [← ha,← hbb] at hpb
  obtain ⟨p1,p2,p3,p4⟩:=hpb
  obtain ⟨r,hr⟩:∃ r,r = s.extract j s.size:=⟨_,rfl⟩
  have hsz:r.size = s.size - j:=by rw [hr,extract_size']
  have HR:Hid (RdrAt wr B r a b):=Lib.hid (by have:=hR; unfold StandsAt at this; rwa [← hr,← ha,← hbb] at this)
  have c0:wr.cell? ⟨B,0,none⟩ = some (.string r):=cell_of_block' HR.out (i:=0) rfl
  have HSt:=Lib.hid hR
  have HG:=Lib.hid hg
  have HK:=Lib.hid hk
  have HB:=Lib.hid hb
  have HRr:=Lib.hid hr
  clear ha hbb hR hg hk hb
  by_cases hlt:j < s.size
  ·have hrs:0 < r.size:=by omega
   have hrs2:r.size ≤ 9223372036854775800:=by omega
   have hne:=txt_ne hrs
   have hb0:s.data.toList[j]? = some r[0]:=by
    have:=byte_at' r 0 hrs
    rw [← this]
    subst hr
    rw [extract_drop,List.getElem?_drop]; rfl
   have HB0:=Lib.hid hb0
   have hcl:=Lib.hid (cls_some hb0)
   have hsj:r.size + j ≤ s.size:=by omega
   clear hb0 hr hsz
   have hv:=clsB_val r[0] _ rfl
   rcases hv with ⟨h1,h2,hc⟩ | ⟨h1,h2,hc⟩ | ⟨h1,hc⟩ | ⟨h1,hc⟩ | ⟨h1,hc⟩ | ⟨h1,n1,n2,n3,n4,n5,n6,hc⟩
   ·have e32:((r[0].toNat:Int) == 32) = false:=by simp; omega
    have e9:((r[0].toNat:Int) == 9) = false:=by simp; omega
    have e13:((r[0].toNat:Int) == 13) = false:=by simp; omega
    have e10:((r[0].toNat:Int) == 10) = false:=by simp; omega
    have e35:((r[0].toNat:Int) == 35) = false:=by simp; omega
    clear h1 h2
    have HS2:=Lib.hid (skip_stop HK.out HG.out HSt.out HB.out (by rw [hcl.out,hc]; decide) (by rw [hcl.out,hc]; decide))
    clear hc hcl
    go_wp2_with fail
    refine bodyPost_ret (results_none rfl _ _ _) rfl ?_
    exact HS2.out
   ·have e32:((r[0].toNat:Int) == 32) = false:=by simp; omega
    have e9:((r[0].toNat:Int) == 9) = false:=by simp; omega
    have e13:((r[0].toNat:Int) == 13) = false:=by simp; omega
    have e10:((r[0].toNat:Int) == 10) = false:=by simp; omega
    have e35:((r[0].toNat:Int) == 35) = false:=by simp; omega
    clear h1 h2
    have HS2:=Lib.hid (skip_stop HK.out HG.out HSt.out HB.out (by rw [hcl.out,hc]; decide) (by rw [hcl.out,hc]; decide))
    clear hc hcl
    go_wp2_with fail
    refine bodyPost_ret (results_none rfl _ _ _) rfl ?_
    exact HS2.out
   ·have e32:((r[0].toNat:Int) == 32) = false:=by simp; omega
    have e9:((r[0].toNat:Int) == 9) = false:=by simp; omega
    have e13:((r[0].toNat:Int) == 13) = false:=by simp; omega
    have e10:((r[0].toNat:Int) == 10) = false:=by simp; omega
    have e35:((r[0].toNat:Int) == 35) = false:=by simp; omega
    clear h1
    have HS2:=Lib.hid (skip_stop HK.out HG.out HSt.out HB.out (by rw [hcl.out,hc]; decide) (by rw [hcl.out,hc]; decide))
    clear hc hcl
    go_wp2_with fail
    refine bodyPost_ret (results_none rfl _ _ _) rfl ?_
    exact HS2.out
   ·rcases h1 with h1 | h1 | h1 | h1
    ·have e32:((r[0].toNat:Int) == 32) = true:=by simp; omega
     have HC:=Lib.hid (fun w h => pass_any B r 1 a b w h (by omega) (by omega) (by omega) (by omega))
     have HCl:Hid (cls s.data.toList j = 4 ∧ ∀ c,s.data.toList[j]? = some c → c.toNat ≠ 10):=Lib.hid ⟨hcl.out.trans hc,fun c h => by rw [HB0.out] at h; cases h; omega⟩
     clear hc h1 hcl
     go_wp2_with fail
     refine (HC.out _ HR.out).mono ?_
     rintro e w2 ⟨rfl,hR2,hb2⟩
     have HN:=Lib.hid (skip_blank hlt HK.out HG.out HRr.out HA.out HB.out HCl.out.1 HCl.out.2 hR2 hb2)
     have HM:Hid (s.size - (j + 1) < gk):=Lib.hid (by have:=HK.out; omega)
     clear hR2 hb2
     go_wp2_with fail
     go_roundg (s.size - (j + 1))
     case rel => exact HN.out
     case measure => exact HM.out
    ·have e32:((r[0].toNat:Int) == 32) = false:=by simp; omega
     have e9:((r[0].toNat:Int) == 9) = true:=by simp; omega
     have HC:=Lib.hid (fun w h => pass_any B r 1 a b w h (by omega) (by omega) (by omega) (by omega))
     have HCl:Hid (cls s.data.toList j = 4 ∧ ∀ c,s.data.toList[j]? = some c → c.toNat ≠ 10):=Lib.hid ⟨hcl.out.trans hc,fun c h => by rw [HB0.out] at h; cases h; omega⟩
     clear hc h1 hcl
     go_wp2_with fail
     refine (HC.out _ HR.out).mono ?_
     rintro e w2 ⟨rfl,hR2,hb2⟩
     have HN:=Lib.hid (skip_blank hlt HK.out HG.out HRr.out HA.out HB.out HCl.out.1 HCl.out.2 hR2 hb2)
     have HM:Hid (s.size - (j + 1) < gk):=Lib.hid (by have:=HK.out; omega)
     clear hR2 hb2
     go_wp2_with fail
     go_roundg (s.size - (j + 1))
     case rel => exact HN.out
     case measure => exact HM.out
    ·have e32:((r[0].toNat:Int) == 32) = false:=by simp; omega
     have e9:((r[0].toNat:Int) == 9) = false:=by simp; omega
     have e13:((r[0].toNat:Int) == 13) = false:=by simp; omega
     have e10:((r[0].toNat:Int) == 10) = true:=by simp; omega
     have HC:=Lib.hid (fun w h => pass_any B r 1 a b w h (by omega) (by omega) (by omega) (by omega))
     have HCl:Hid (cls s.data.toList j = 4 ∧ ∀ c,s.data.toList[j]? = some c → c.toNat = 10):=Lib.hid ⟨hcl.out.trans hc,fun c h => by rw [HB0.out] at h; cases h; omega⟩
     clear hc h1 hcl
     go_wp2_with fail
     refine (HC.out _ HR.out).mono ?_
     rintro e w2 ⟨rfl,hR2,hb2⟩
     have q1:RdrAt (w2.setCell ⟨B,1,none⟩ (.int .i64 (a + 1))) B (r.extract 1 r.size) (a + 1) (b + (1:Nat)):=block_setCell' hR2 1 _
     have q2:RdrAt ((w2.setCell ⟨B,1,none⟩ (.int .i64 (a + 1))).setCell ⟨B,2,none⟩ (.int .i64 1)) B (r.extract 1 r.size) (a + 1) 1:=block_setCell' q1 2 _
     have d1:w2.cell? ⟨B,1,none⟩ = some (.int .i64 a):=cell_of_block' hR2 (i:=1) rfl
     have d2:w2.cell? ⟨B,2,none⟩ = some (.int .i64 (b + (1:Nat))):=cell_of_block' hR2 (i:=2) rfl
     have g1:=free_of_block' hR2 1
     have g2:=free_of_block' hR2 2
     have HN:=Lib.hid (skip_line hlt HK.out HG.out HRr.out HA.out HB.out HCl.out.1 HCl.out.2 q2 (but_set (but_set hb2 1 _) 2 _))
     have HM:Hid (s.size - (j + 1) < gk):=Lib.hid (by have:=HK.out; omega)
     clear hR2 hb2 q1 q2
     go_wp2_with fail
     go_roundg (s.size - (j + 1))
     case rel => exact HN.out
     case measure => exact HM.out
    ·have e32:((r[0].toNat:Int) == 32) = false:=by simp; omega
     have e9:((r[0].toNat:Int) == 9) = false:=by simp; omega
     have e13:((r[0].toNat:Int) == 13) = true:=by simp; omega
     have HC:=Lib.hid (fun w h => pass_any B r 1 a b w h (by omega) (by omega) (by omega) (by omega))
     have HCl:Hid (cls s.data.toList j = 4 ∧ ∀ c,s.data.toList[j]? = some c → c.toNat ≠ 10):=Lib.hid ⟨hcl.out.trans hc,fun c h => by rw [HB0.out] at h; cases h; omega⟩
     clear hc h1 hcl
     go_wp2_with fail
     refine (HC.out _ HR.out).mono ?_
     rintro e w2 ⟨rfl,hR2,hb2⟩
     have HN:=Lib.hid (skip_blank hlt HK.out HG.out HRr.out HA.out HB.out HCl.out.1 HCl.out.2 hR2 hb2)
     have HM:Hid (s.size - (j + 1) < gk):=Lib.hid (by have:=HK.out; omega)
     clear hR2 hb2
     go_wp2_with fail
     go_roundg (s.size - (j + 1))
     case rel => exact HN.out
     case measure => exact HM.out
   ·have e32:((r[0].toNat:Int) == 32) = false:=by simp; omega
    have e9:((r[0].toNat:Int) == 9) = false:=by simp; omega
    have e13:((r[0].toNat:Int) == 13) = false:=by simp; omega
    have e10:((r[0].toNat:Int) == 10) = false:=by simp; omega
    have e35:((r[0].toNat:Int) == 35) = true:=by simp; omega
    have hrl:=run_le notNl r.data.toList
    rw [size_list'] at hrl
    have HRm:=Lib.hid (fun w => remark_any r w (by omega))
    obtain ⟨m,hm⟩:∃ m,m = run notNl r.data.toList:=⟨_,rfl⟩
    rw [← hm] at HRm hrl
    have HMm:=Lib.hid hm
    have HC:=Lib.hid (fun w h => pass_any B r m a b w h (by omega) (by omega) (by omega) (by omega))
    have HCl:Hid (cls s.data.toList j = 5):=Lib.hid (hcl.out.trans hc)
    clear hc h1 hcl hm
    go_wp2_with (go_at_call 127; (with_reducible refine (HRm.out _).mono ?_); rintro e w' ⟨rfl,rfl⟩)
    refine (HC.out _ HR.out).mono ?_
    rintro e w2 ⟨rfl,hR2,hb2⟩
    have HN:=Lib.hid (skip_remark hlt HK.out HG.out HRr.out HA.out HB.out HCl.out HMm.out hR2 hb2)
    clear hR2 hb2
    go_wp2_with fail
    go_roundg (s.size - (j + m))
    case rel => exact HN.out.1
    case measure => exact HN.out.2
   ·have e32:((r[0].toNat:Int) == 32) = false:=by simp; omega
    have e9:((r[0].toNat:Int) == 9) = false:=by simp; omega
    have e13:((r[0].toNat:Int) == 13) = false:=by simp; omega
    have e10:((r[0].toNat:Int) == 10) = false:=by simp; omega
    have e35:((r[0].toNat:Int) == 35) = false:=by simp; omega
    clear h1 n1 n2 n3 n4 n5 n6
    have HS2:=Lib.hid (skip_stop HK.out HG.out HSt.out HB.out (by rw [hcl.out,hc]; decide) (by rw [hcl.out,hc]; decide))
    clear hc hcl
    go_wp2_with fail
    refine bodyPost_ret (results_none rfl _ _ _) rfl ?_
    exact HS2.out
  ·have hcl:=cls_none (l:=s.data.toList) (i:=j) (by rw [size_list']; omega)
   have HS2:=Lib.hid (skip_stop HK.out HG.out HSt.out HB.out (by rw [hcl]; decide) (by rw [hcl]; decide))
   have hr0:r.size = 0:=by omega
   have hl:r.toList = []:=by rw [ByteArray.toList_eq,← List.length_eq_zero_iff]; exact hr0
   clear hcl hr hsz hr0
   go_wp2_with fail
   go_end0
   exact HS2.out
end Go.Proofs.YtjfghaohogcfbaaGreatDoor
namespace Go.Proofs.YtjfghaohogcfbaaGreatDoor
open Go.RowKit ScanSpec
set_option maxRecDepth 100000
theorem PairsIn.but {w w':World} {B:Nat} (h:PairsIn w) (hb:w.grownBy w' (some B)) (hB:0 ≠ B):PairsIn w':=by
 have hp:=h.pos
 obtain ⟨T,fr,h⟩:=h
 exact ⟨T,fr,(hb.block _ hp (by simpa using hB)).trans h⟩
abbrev tokZ:Obj:=.cells #[.int .i64 0,.string ⟨#[]⟩,.int .i64 0,.int .i64 0] 84
abbrev tokH (p1 p2:Int):Obj:=.cells #[.int .i64 0,.string ⟨#[]⟩,.int .i64 p1,.int .i64 p2] 84
def tokA (s:ByteArray) (kd:Int) (i n:Nat):Value:=.agg #[.int .i64 kd,.string (s.extract i (i + n)),.int .i64 (pos s.data.toList i).1,.int .i64 (pos s.data.toList i).2]
def NextGood (w:World) (B:Nat) (s:ByteArray) (i:Nat) (kd:Int) (n:Nat) (e:Ending) (w':World):Prop :=
 e = .returned (.tuple #[tokA s kd i n,.int .i64 0]) ∧ StandsAt w' B s (i + n) ∧ w.grownBy w' (some B)
structure NextMid (w w3:World) (B tb:Nat) (r:ByteArray) (p1 p2:Int):Prop where
 rdr:RdrAt w3 B r p1 p2
 tok:w3.heap[tb]? = some (.cells #[.int .i64 0,.string ⟨#[]⟩,.int .i64 p1,.int .i64 p2] 84 (0,0))
 res:w3.heap[w.heap.size]? = some (.cells #[.int .i64 0,.string ⟨#[]⟩,.int .i64 0,.int .i64 0] 84 (0,0))
 but:w.grownBy w3 (some B)
 lt:w.heap.size < tb
 bne:B ≠ tb
 top:tb < w3.heap.size
theorem next_mid {w w2:World} {B:Nat} {s r:ByteArray} {g:Nat} {p1 p2:Int} (hB:B < w.heap.size) (hR:StandsAt w2 B s g) (hr:s.extract g s.size = r) (hp:pos s.data.toList g = (p1,p2)) (hb:(w.alloc tokZ).grownBy w2 (some B)) :
 NextMid w (w2.alloc (tokH p1 p2)) B w2.heap.size r p1 p2:=by
 have h2:=hb.size
 rw [World.size_alloc] at h2
 unfold StandsAt at hR
 rw [hr,hp] at hR
 exact ⟨(heap_alloc_old _ _ hR.lt).trans hR,heap_alloc_new _ _,(heap_alloc_old _ _ (by omega)).trans ((hb.block w.heap.size (by simp) (by simp; omega)).trans (heap_alloc_new _ _)),but_from (but_alloc hb _),by omega,Nat.ne_of_lt hR.lt,by simp⟩
structure NextMid4 (w w4:World) (B tb:Nat) (r:ByteArray) (p1 p2:Int) (u v:Value):Prop where
 rdr:RdrAt w4 B r p1 p2
 tok:w4.heap[tb]? = some (.cells #[u,v,.int .i64 p1,.int .i64 p2] 84 (0,0))
 res:w4.heap[w.heap.size]? = some (.cells #[.int .i64 0,.string ⟨#[]⟩,.int .i64 0,.int .i64 0] 84 (0,0))
 but:w.grownBy w4 (some B)
 lt:w.heap.size < tb
 bne:B ≠ tb
structure NextMid5 (w w4:World) (B tb:Nat) (p1 p2:Int) (u v:Value):Prop where
 tok:w4.heap[tb]? = some (.cells #[u,v,.int .i64 p1,.int .i64 p2] 84 (0,0))
 res:w4.heap[w.heap.size]? = some (.cells #[.int .i64 0,.string ⟨#[]⟩,.int .i64 0,.int .i64 0] 84 (0,0))
 but:w.grownBy w4 (some B)
theorem next_past {w w4 w5:World} {B tb:Nat} {r:ByteArray} {p1 p2:Int} {u v:Value} (hB:B < w.heap.size) (h:NextMid4 w w4 B tb r p1 p2 u v) (hb:w4.grownBy w5 (some B)):NextMid5 w w5 B tb p1 p2 u v :=
 ⟨(hb.block _ (Array.getElem?_eq_some_iff.1 h.tok).1 (by simpa using Ne.symm h.bne)).trans h.tok,(hb.block _ (Array.getElem?_eq_some_iff.1 h.res).1 (by simp; omega)).trans h.res,but_trans h.but hb⟩
theorem next_fin {w w5:World} {B tb g n:Nat} {s r:ByteArray} {kd p1 p2:Int} {u v x0 x1 x2 x3:Value} (hB:B < w.heap.size) (h:NextMid5 w w5 B tb p1 p2 u v) (hS:StandsAt w5 B s (g + n)) (hr:s.extract g s.size = r) (hp:pos s.data.toList g = (p1,p2)) (hn:g + n ≤ s.size) :
 NextGood w B s g kd n (.returned (.tuple #[.agg #[.int .i64 kd,.string (r.extract 0 n),.int .i64 p1,.int .i64 p2],.int .i64 0]))
  ((((w5.setCell ⟨w.heap.size,0,none⟩ x0).setCell ⟨w.heap.size,1,none⟩ x1).setCell ⟨w.heap.size,2,none⟩ x2).setCell ⟨w.heap.size,3,none⟩ x3):=by
 have hb:∀ (W:World) (j:Nat) (x:Value),(W.setCell ⟨w.heap.size,j,none⟩ x).heap[B]? = W.heap[B]?:=fun W j x => Below.heap_setCell _ _ _ _ (Nat.ne_of_lt hB)
 refine ⟨?_,?_,but_set_new (but_set_new (but_set_new (but_set_new h.but (Nat.le_refl _) _ _) (Nat.le_refl _) _ _) (Nat.le_refl _) _ _) (Nat.le_refl _) _ _⟩
 ·subst hr
  rw [extract_head s g n hn,tokA,hp]
 ·exact (hb _ _ _).trans ((hb _ _ _).trans ((hb _ _ _).trans ((hb _ _ _).trans hS)))
set_option maxHeartbeats 4000000 in
theorem next_good (B i:Nat) (s:ByteArray) (w:World) (hi:i ≤ s.size) (hs:s.size ≤ 9223372036854775800) (h:StandsAt w B s i) (kd:Int) (n:Nat)
 (hn:gap s.data.toList i + n ≤ s.size) (hl:∀ k,k < n → ∃ c,s.data.toList[gap s.data.toList i + k]? = some c ∧ c.toNat ≠ 10)
 (hF:∀ w',w.grownBy w' (some B) → Calls Tryz.prog 85 #[.string (s.extract (gap s.data.toList i) s.size)] w' fun e w2 => e = .returned (.tuple #[.int .i64 kd,.int .i64 n,.int .i64 0]) ∧ w' = w2) :
 Calls Tryz.prog 46 #[.pointer (some ⟨B,0,none⟩)] w (NextGood w B s (gap s.data.toList i) kd n):=by
 have HS:=Lib.hid (fun w h => skip_any B i s w hi hs h)
 have hBlt:=h.lt
 have HSt:=Lib.hid h
 obtain ⟨g,hg⟩:∃ g,g = gap s.data.toList i:=⟨_,rfl⟩
 rw [← hg] at hn hl hF ⊢
 obtain ⟨r,hr⟩:∃ r,s.extract g s.size = r:=⟨_,rfl⟩
 obtain ⟨p1,p2,hp⟩:∃ p1 p2,pos s.data.toList g = (p1,p2):=⟨_,_,rfl⟩
 have hrs:r.size + g = s.size:=by rw [← hr,extract_size']; omega
 have hpb:=pos_bd s.data.toList g
 rw [hp] at hpb
 obtain ⟨b1,b2,b3,b4⟩:=hpb
 simp only at b1 b2 b3 b4
 rw [hr] at hF
 have HP:=Lib.hid hp
 have HRr:=Lib.hid hr
 have HGp:=Lib.hid hg
 have HL:=Lib.hid hl
 have HF:=Lib.hid hF
 have hnr:n ≤ r.size:=by omega
 have hnI:(n:Int) ≤ (r.size:Int):=by omega
 have HPs:=Lib.hid (fun w h => pass_any B r n p1 p2 w h (by omega) (by omega) (by omega) (by omega))
 clear h hg hl hF hp hr
 go_enter Tryz.func46,Tryz.ntmps46
 go_wp2_with fail
 refine (HS.out _ (by exact (heap_alloc_old _ _ hBlt).trans HSt.out)).mono ?_
 rintro e w2 ⟨rfl,hR2,hb2⟩
 rw [← HGp.out] at hR2
 have HM:=Lib.hid (next_mid hBlt hR2 HRr.out HP.out hb2)
 have c0:w2.cell? ⟨B,0,none⟩ = some (.string r):=by have:=cell_of_block' hR2 (i:=0) rfl; rwa [HRr.out] at this
 have c1:w2.cell? ⟨B,1,none⟩ = some (.int .i64 p1):=by have:=cell_of_block' hR2 (i:=1) rfl; rwa [HP.out] at this
 have c2:w2.cell? ⟨B,2,none⟩ = some (.int .i64 p2):=by have:=cell_of_block' hR2 (i:=2) rfl; rwa [HP.out] at this
 have hB2:=hR2.lt
 clear hR2 hb2
 go_wp2_with fail
 refine (HF.out _ HM.out.but).mono ?_
 rintro e w' ⟨rfl,rfl⟩
 obtain ⟨tb,htb⟩:∃ tb,tb = w2.heap.size:=⟨_,rfl⟩
 generalize hW3:w2.alloc (tokH p1 p2) = w3 at HM ⊢
 rw [← htb] at HM ⊢
 clear hW3 c0 c1 c2 htb hB2
 have c0:w3.cell? ⟨B,0,none⟩ = some (.string r):=cell_of_block' HM.out.rdr (i:=0) rfl
 have t0:=cell_of_block' HM.out.tok (i:=0) rfl
 have t1:=cell_of_block' HM.out.tok (i:=1) rfl
 have f0:=free_of_block' HM.out.tok 0
 have f1:=free_of_block' HM.out.tok 1
 have q0:(w3.setCell ⟨tb,0,none⟩ (.int .i64 kd)).heap[tb]? = some (.cells #[.int .i64 kd,.string ⟨#[]⟩,.int .i64 p1,.int .i64 p2] 84 (0,0)):=block_setCell' HM.out.tok 0 _
 have d0:(w3.setCell ⟨tb,0,none⟩ (.int .i64 kd)).cell? ⟨B,0,none⟩ = some (.string r):=cell_of_block' ((Below.heap_setCell _ _ _ _ HM.out.bne).trans HM.out.rdr) (i:=0) rfl
 have d1:=cell_of_block' q0 (i:=1) rfl
 have g1:=free_of_block' q0 1
 clear q0
 go_wp2_with fail
 go_region
 have hT4:((w3.setCell ⟨tb,0,none⟩ (.int .i64 kd)).setCell ⟨tb,1,none⟩ (.string (r.extract 0 n))).heap[tb]? = some (.cells #[.int .i64 kd,.string (r.extract 0 n),.int .i64 p1,.int .i64 p2] 84 (0,0)):=block_setCell' (block_setCell' HM.out.tok 0 _) 1 _
 have HM4:Hid (NextMid4 w ((w3.setCell ⟨tb,0,none⟩ (.int .i64 kd)).setCell ⟨tb,1,none⟩ (.string (r.extract 0 n))).drew B tb r p1 p2 (.int .i64 kd) (.string (r.extract 0 n))) :=
  Lib.hid ⟨(Below.heap_setCell _ _ _ _ HM.out.bne).trans ((Below.heap_setCell _ _ _ _ HM.out.bne).trans HM.out.rdr),hT4,(Below.heap_setCell _ _ _ _ (Nat.ne_of_lt HM.out.lt)).trans ((Below.heap_setCell _ _ _ _ (Nat.ne_of_lt HM.out.lt)).trans HM.out.res),
   but_drew (but_set_new (but_set_new HM.out.but (Nat.le_of_lt HM.out.lt) _ _) (Nat.le_of_lt HM.out.lt) _ _),HM.out.lt,HM.out.bne⟩
 clear hT4 d0 d1 g1 c0 t0 t1 f0 f1
 generalize ((w3.setCell ⟨tb,0,none⟩ (.int .i64 kd)).setCell ⟨tb,1,none⟩ (.string (r.extract 0 n))).drew = w4 at HM4 ⊢
 go_wp2_with fail
 refine (HPs.out _ HM4.out.rdr).mono ?_
 rintro e w5 ⟨rfl,hR5,hb5⟩
 have HM5:=Lib.hid (next_past hBlt HM4.out hb5)
 have HR5:=Lib.hid (stands_on hR5 HRr.out.symm (by rw [pos_along _ HL.out,HP.out]))
 clear hR5 hb5
 have c0:=cell_of_block' HM5.out.tok (i:=0) rfl
 have c1:=cell_of_block' HM5.out.tok (i:=1) rfl
 have c2:=cell_of_block' HM5.out.tok (i:=2) rfl
 have c3:=cell_of_block' HM5.out.tok (i:=3) rfl
 have r0:=cell_of_block' HM5.out.res (i:=0) rfl
 have r1:=cell_of_block' HM5.out.res (i:=1) rfl
 have r2:=cell_of_block' HM5.out.res (i:=2) rfl
 have r3:=cell_of_block' HM5.out.res (i:=3) rfl
 have f0:=free_of_block' HM5.out.res 0
 have f1:=free_of_block' HM5.out.res 1
 have f2:=free_of_block' HM5.out.res 2
 have f3:=free_of_block' HM5.out.res 3
 go_wp2_with fail
 have q0:=fun u => (store_four HM5.out.res u u u u).1
 have q1:=fun u v => (store_four HM5.out.res u v v v).2.1
 have q2:=fun u v x => (store_four HM5.out.res u v x x).2.2.1
 have q3:=fun u v x y => (store_four HM5.out.res u v x y).2.2.2
 refine bodyPost_ret (v:=.tuple #[.agg #[.int .i64 kd,.string (r.extract 0 n),.int .i64 p1,.int .i64 p2],.int .i64 0]) (by simp [results,Tryz.results46,go_sem,q0,q1,q2,q3]) rfl ?_
 exact next_fin hBlt HM5.out HR5.out HRr.out HP.out hn
def NextBad (w:World) (B:Nat) (s:ByteArray) (i:Nat) (er:Int) (e:Ending) (w':World):Prop :=
 e = .returned (.tuple #[.agg #[.int .i64 0,.string ⟨#[]⟩,.int .i64 (pos s.data.toList i).1,.int .i64 (pos s.data.toList i).2],.int .i64 er]) ∧ w.grownBy w' (some B)
set_option maxHeartbeats 4000000 in
theorem next_bad (B i:Nat) (s:ByteArray) (w:World) (hi:i ≤ s.size) (hs:s.size ≤ 9223372036854775800) (h:StandsAt w B s i) (er:Int) (hne:er ≠ 0)
 (hF:∀ w',w.grownBy w' (some B) → Calls Tryz.prog 85 #[.string (s.extract (gap s.data.toList i) s.size)] w' fun e w2 => e = .returned (.tuple #[.int .i64 0,.int .i64 0,.int .i64 er]) ∧ w' = w2) :
 Calls Tryz.prog 46 #[.pointer (some ⟨B,0,none⟩)] w (NextBad w B s (gap s.data.toList i) er):=by
 have HS:=Lib.hid (fun w h => skip_any B i s w hi hs h)
 have hBlt:=h.lt
 have HSt:=Lib.hid h
 obtain ⟨g,hg⟩:∃ g,g = gap s.data.toList i:=⟨_,rfl⟩
 rw [← hg] at hF ⊢
 obtain ⟨r,hr⟩:∃ r,s.extract g s.size = r:=⟨_,rfl⟩
 obtain ⟨p1,p2,hp⟩:∃ p1 p2,pos s.data.toList g = (p1,p2):=⟨_,_,rfl⟩
 rw [hr] at hF
 have HP:=Lib.hid hp
 have HRr:=Lib.hid hr
 have HGp:=Lib.hid hg
 have HF:=Lib.hid hF
 have e0:(er == 0) = false:=by simpa using hne
 have e1:(er != 0) = true:=by simpa using hne
 clear h hg hF hp hr hne
 go_enter Tryz.func46,Tryz.ntmps46
 go_wp2_with fail
 refine (HS.out _ (by exact (heap_alloc_old _ _ hBlt).trans HSt.out)).mono ?_
 rintro e w2 ⟨rfl,hR2,hb2⟩
 rw [← HGp.out] at hR2
 have HM:=Lib.hid (next_mid hBlt hR2 HRr.out HP.out hb2)
 have c0:w2.cell? ⟨B,0,none⟩ = some (.string r):=by have:=cell_of_block' hR2 (i:=0) rfl; rwa [HRr.out] at this
 have c1:w2.cell? ⟨B,1,none⟩ = some (.int .i64 p1):=by have:=cell_of_block' hR2 (i:=1) rfl; rwa [HP.out] at this
 have c2:w2.cell? ⟨B,2,none⟩ = some (.int .i64 p2):=by have:=cell_of_block' hR2 (i:=2) rfl; rwa [HP.out] at this
 have hB2:=hR2.lt
 clear hR2 hb2
 go_wp2_with fail
 refine (HF.out _ HM.out.but).mono ?_
 rintro e w' ⟨rfl,rfl⟩
 obtain ⟨tb,htb⟩:∃ tb,tb = w2.heap.size:=⟨_,rfl⟩
 generalize hW3:w2.alloc (tokH p1 p2) = w3 at HM ⊢
 rw [← htb] at HM ⊢
 clear hW3 c0 c1 c2 htb hB2
 have c0:=cell_of_block' HM.out.tok (i:=0) rfl
 have c1:=cell_of_block' HM.out.tok (i:=1) rfl
 have c2:=cell_of_block' HM.out.tok (i:=2) rfl
 have c3:=cell_of_block' HM.out.tok (i:=3) rfl
 have r0:=cell_of_block' HM.out.res (i:=0) rfl
 have r1:=cell_of_block' HM.out.res (i:=1) rfl
 have r2:=cell_of_block' HM.out.res (i:=2) rfl
 have r3:=cell_of_block' HM.out.res (i:=3) rfl
 have f0:=free_of_block' HM.out.res 0
 have f1:=free_of_block' HM.out.res 1
 have f2:=free_of_block' HM.out.res 2
 have f3:=free_of_block' HM.out.res 3
 go_wp2_with fail
 have q0:=fun u => (store_four HM.out.res u u u u).1
 have q1:=fun u v => (store_four HM.out.res u v v v).2.1
 have q2:=fun u v x => (store_four HM.out.res u v x x).2.2.1
 have q3:=fun u v x y => (store_four HM.out.res u v x y).2.2.2
 refine bodyPost_ret (v:=.tuple #[.agg #[.int .i64 0,.string ⟨#[]⟩,.int .i64 p1,.int .i64 p2],.int .i64 er]) (by simp [results,Tryz.results46,go_sem,q0,q1,q2,q3]) rfl ?_
 exact ⟨by rw [HP.out],but_set_new (but_set_new (but_set_new (but_set_new HM.out.but (Nat.le_refl _) _ _) (Nat.le_refl _) _ _) (Nat.le_refl _) _ _) (Nat.le_refl _) _ _⟩
end Go.Proofs.YtjfghaohogcfbaaGreatDoor