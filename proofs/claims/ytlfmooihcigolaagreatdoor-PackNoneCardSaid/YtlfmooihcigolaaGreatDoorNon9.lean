/-
  pack.Of of an object that may not be; PackNone, walked.
-/
import Derived.Test.YtlfmooihcigolaaGreatDoorMbt
import Derived.Test.YtlfmooihcigolaaGreatDoorMbu
set_option maxRecDepth 100000
set_option maxHeartbeats 8000000
namespace Go.Proofs.YtlfmooihcigolaaGreatDoor
open Go.RowKit
theorem pof_no (A:Option Addr) (c:Nat) (p:Obx) (w:World) (hA:ArgG encX default 38 w A c [p]) (hH:HasX w p) (ht:p.x.commit.time < 18446744073709551616) (hl:p.x.entries.length ≤ 1048576) (hm:mayO' p.x = false) :
  Calls Tryz.prog 30 #[.slice A 1 c] w fun e w'=>e = .returned (.tuple #[.string ⟨#[]⟩,.bool false]) ∧ Below w.heap.size w w':=by
 have HA:=Hy hA
 have hlc:1 ≤ c:=hA.1
 have HPUT:Hid (∀ W,Below w.heap.size w W → Calls Tryz.prog 73 #[.agg (encX p).toArray] W fun e w'=>e = .returned (.tuple #[.string ⟨#[]⟩,.bool false]) ∧ Below W.heap.size W w'):=fun W hW=>by
  have:=oput_any p.A p.c p.A2 p.c2 p.x W (ArgO.later hH hW) ht hl
  rw [hm,if_neg (by decide)] at this
  exact this
 clear hA hH hm
 go_enter Tryz.func30,Tryz.ntmps30
 go_wp2
 go_loopg [4,7,8,11] 1 (fun g s4 _ _ s11 wr=>s4 = .slice none 0 0 ∧ s11 = .int .i64 0 ∧ 1 ≤ g ∧ Hid (Below w.heap.size w wr))
 case atStart=>exact ⟨rfl,rfl,Nat.le_refl _,Hy (Below.refl _ _)⟩
 case round=>
  obtain ⟨rfl,rfl,hg,hwr⟩:=hrel
  obtain ⟨bb,o,rfl,hr⟩:=(HA.out.later eltX hwr.out).2.2.2 (by simp)
  have hrk:wr.rangeAt bb o (encX p):=by simpa using hr 0 (by simp)
  have HRK:=Hy hrk
  clear hr hrk
  go_upto_region 5 with (first
   | (refine wpList_load_mid rfl 49 _ rfl bb o rfl (encX p) _ HRK.out Tryz.underlying49 rfl (infoOx p) ?_)
   | (refine wpList_store_whole rfl 49 _ _ rfl wr.heap.size (encX p).toArray rfl rfl 49 _ (Whole.made wr _ _) (infoOx_s p) (by rw [encX_size]; rfl) (encX_all p) ?_; intro w3 hWn hGn; have HW3:=Hy hWn; have D3:=Hy (made_below' hGn); clear hWn hGn))
  have HB3:=Hy (hTr hwr D3.out)
  clear hwr D3
  go_wp2_with (refine wpList_load_row rfl 49 _ rfl wr.heap.size rfl 49 (encX p).toArray (0,0) _ HW3.out Tryz.underlying49 rfl (infoOx_s p) ?_)
  refine (HPUT.out w3 HB3.out).mono ?_
  rintro e w4 ⟨rfl,hb4⟩
  have HB4:=Hy (hTr HB3 hb4)
  clear hb4 HB3 HW3
  go_wp2
  go_ret2
  exact ⟨rfl,HB4.out⟩
theorem vput_not (n:Int) (h:¬ (0 ≤ n ∧ n ≤ 1000000)) (w:World):Calls Tryz.prog 29 #[.int .i64 n] w fun e w'=>e = .returned (.tuple #[.string ⟨#[]⟩,.bool false]) ∧ w = w':=by
 have hm:=fun W=>vmay_any n W
 have hf:(decide (0 ≤ n) && decide (n ≤ 1000000)) = false:=by
  rw [Bool.and_eq_false_iff,decide_eq_false_iff_not,decide_eq_false_iff_not]
  omega
 rw [hf] at hm
 have HM:=Hy hm
 clear hm hf h
 go_enter Tryz.func29,Tryz.ntmps29
 go_wp2_with fail
 refine (HM.out _).mono ?_
 rintro e w' ⟨rfl,rfl⟩
 go_wp2
 go_ret2
 exact ⟨rfl,rfl⟩
theorem encP_nil:(encP []).length = 37:=by
 unfold encP
 rw [List.length_append,ShaM.sha_len,show (bodyP []).length = 5 by decide +kernel]
theorem okP_nil:okP []:=⟨Nat.zero_le _,fun _ h=>absurd h (Nat.not_lt_zero _)⟩
theorem t_wnil (w:World) (hTab:Tabs w) (hT:Tens w):Calls Tryz.prog 26 #[.string ⟨(encP []).toArray⟩,.slice none 0 0] w fun e w'=>e = .returned (.tuple #[.string ⟨(encP []).toArray⟩,.int .i64 0]) ∧ Below w.heap.size w w':=by
 refine (twhole_any [] (fun _=>default) none 0 [] 0 (0,0,⟨[],0,[]⟩) w hTab hT okP_nil (by decide) (fun _ h=>absurd h (Nat.not_lt_zero _)) (fun _ h=>absurd h (Nat.not_lt_zero _)) (argG_nil w) (fun _ h=>by cases h) (fun _ h=>by cases h) (by decide) rfl (fun _ o h=>by cases h)).mono ?_
 rintro e w' ⟨hb,hres⟩
 refine ⟨?_,hb⟩
 rcases hres with ⟨-,s,-,hl,-,rfl⟩ | ⟨h,-⟩
 ·obtain rfl:s = []:=List.length_eq_zero_iff.1 (Nat.le_zero.1 hl)
  rfl
 ·exact absurd rfl h
theorem t_nneeds (w:World):Calls Tryz.prog 28 #[.slice none 0 0] w fun e w'=>(∃ A' c',e = .returned (.slice A' 0 c')) ∧ Below w.heap.size w w':=by
 refine (pneeds_any none 0 [] w (argG_nil w) (by decide)).mono ?_
 rintro e w' ⟨⟨A',c',s,rfl,-,-,hl,-⟩,hb⟩
 obtain rfl:s = []:=List.length_eq_zero_iff.1 (Nat.le_zero.1 hl)
 exact ⟨⟨A',c',rfl⟩,hb⟩
theorem t_nget (w:World) (hTab:Tabs w):Calls Tryz.prog 21 #[.string ⟨(encP []).toArray⟩] w fun e w'=>(∃ A c,e = .returned (.tuple #[.slice A 0 c,.int .i64 0])) ∧ Below w.heap.size w w':=by
 refine (pget_any [] w hTab okP_nil).mono ?_
 rintro e w' ⟨⟨A,c,rfl,-,-⟩,hb⟩
 exact ⟨⟨A,c,rfl⟩,hb⟩
def zX:Obx:=⟨none,0,none,0,zO⟩
theorem t_ofz (w:World):Calls Tryz.prog 30 #[.slice (some ⟨w.heap.size,0,none⟩) 1 1] (w.alloc (.cells (encX zX).toArray 49)) fun e w'=>e = .returned (.tuple #[.string ⟨#[]⟩,.bool false]) ∧ Below w.heap.size w w':=by
 have hb:=(Below.refl w.heap.size w).alloc (Nat.le_refl _) (.cells (encX zX).toArray 49)
 refine (pof_no (some ⟨w.heap.size,0,none⟩) 1 zX _ (argG_one (Whole.made w 49 (encX zX).toArray)) ⟨⟨Nat.le_refl _,Nat.zero_le _,fun _=>rfl,fun h=>absurd h (Nat.lt_irrefl _)⟩,⟨Nat.le_refl _,Nat.zero_le _,fun _=>rfl,fun h=>absurd h (Nat.lt_irrefl _)⟩⟩ (by decide) (by decide) (by decide +kernel)).mono ?_
 rintro e w' ⟨rfl,h⟩
 exact ⟨rfl,hb.trans (h.mono (by simp))⟩
attribute [local irreducible] encP
theorem wnone9_any (w:World) (hE:Env w) (hT:Tens w):Calls Tryz.prog 6 #[] w fun e w'=>e = .returned (.bool true) ∧ Below w.heap.size w w':=by
 have HTT:Hid (∀ W,Below w.heap.size w W → Env W ∧ Tens W):=fun W h=>⟨hE.at_ h,hT.below h⟩
 clear hE hT
 go_enter Tryz.func6,Tryz.ntmps6
 go_wp2_with fail
 refine (pput_any none 0 [] w (HTT.out w (Below.refl _ _)).1.tabs (argG_nil w) okP_nil).mono ?_
 rintro e w1 ⟨rfl,hb⟩
 have B1:=Hy hb
 have h37:=encP_nil
 clear hb
 go_wp2_with fail
 refine (t_nget w1 (HTT.out w1 B1.out).1.tabs).mono ?_
 rintro e w2 ⟨⟨A2,c2,rfl⟩,hb⟩
 have B2:=Hy (hTr B1 hb)
 clear hb B1
 go_wp2_with fail
 refine (pget_more [] w2 (by decide)).mono ?_
 rintro e w3 ⟨rfl,hb⟩
 have B3:=Hy (hTr B2 hb)
 clear hb B2
 go_wp2_with fail
 refine (t_wnil w3 (HTT.out w3 B3.out).1.tabs (HTT.out w3 B3.out).2).mono ?_
 rintro e w4 ⟨rfl,hb⟩
 have B4:=Hy (hTr B3 hb)
 clear hb B3
 go_wp2_with fail
 refine (dmake_any [] [] (by decide) (by decide) w4).mono ?_
 rintro e w5 ⟨⟨cs,rfl,hok,hap,hsum,-⟩,hb⟩
 have B5:=Hy (hTr B4 hb)
 have HP1:=Hy (dapply_any [] cs w5 hok (by decide) (by rw [hsum]; decide))
 rw [hap] at HP1
 clear hb B4 hok hap hsum
 generalize encD (List.length []) cs = D1 at *
 go_wp2_with fail
 refine HP1.out.mono ?_
 rintro e w6 ⟨rfl,hb⟩
 have B6:=Hy (hTr B5 hb)
 clear hb B5 HP1
 go_wp2_with fail
 refine (vput_not (-1) (by omega) w6).mono ?_
 rintro e w7 ⟨rfl,rfl⟩
 go_wp2_with (refine wpList_buildG eltX rfl _ rfl zX rfl ?_)
 refine (t_ofz w6).mono ?_
 rintro e w8 ⟨rfl,hb⟩
 have B8:=Hy (hTr B6 hb)
 clear hb B6
 go_wp2_with fail
 refine (begun9_any w8 (HTT.out w8 B8.out).1 (HTT.out w8 B8.out).2).mono ?_
 rintro e w9 ⟨rfl,hb⟩
 have B9:=Hy (hTr B8 hb)
 clear hb B8
 go_wp2_with fail
 refine (t_nneeds w9).mono ?_
 rintro e w10 ⟨⟨A3,c3,rfl⟩,hb⟩
 have B10:=Hy (hTr B9 hb)
 clear hb B9
 go_wp2
 go_ret
 exact ⟨rfl,B10.out⟩
end Go.Proofs.YtlfmooihcigolaaGreatDoor
