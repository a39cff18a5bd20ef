/-
  BodI, BodB, BodJ.
-/
import Derived.Test.YtlfmooihcigolaaGreatDoorMbl
set_option maxRecDepth 100000
set_option maxHeartbeats 8000000
namespace Go.Proofs.YtlfmooihcigolaaGreatDoor
section
open Go.RowKit
theorem plean_nil (m:Nat) (w:World):Calls Tryz.prog 110 #[.pointer (some ⟨m,0,none⟩),.nilFunc] w fun e w'=>e = .returned (.slice none 0 0) ∧ w = w':=by
 have hq:∀ W:World,(binOp .eql 42 .nilFunc .nilFunc).run Tryz.prog W = .ok (.bool true) W:=fun _=>by kernel_rfl
 go_enter Tryz.func110,Tryz.ntmps110
 go_wp2
 go_ret
 exact ⟨rfl,rfl⟩
theorem leanGo_succ (its:List It) (hV:Nm → Int × List UInt8 × Bool) (dead:List Nm) (k:Nat):leanGo its hV dead (k + 1) = if (waits its (leanGo its hV dead k).1 (its.getD k default).base).head? = some k ∧ (hV (its.getD k default).base).2.2 = true then ((its.getD k default).base :: (leanGo its hV dead k).1,(leanGo its hV dead k).2 ++ stepsV (waits its (leanGo its hV dead k).1 (its.getD k default).base) (hV (its.getD k default).base).1 (hV (its.getD k default).base).2.1) else leanGo its hV dead k:=rfl
theorem plean_any (F0 F:Nat → Prop) (hFF:∀ k,F k → F0 k) (its:List It) (p:Mng) (mk:Mk) (G:Nat) (caps:Array Value) (hV:Nm → Int × List UInt8 × Bool) (w:World) (J:(Nat → Prop) → World → Prop) (hM:MkM F0 w its p mk) (hF0:∀ k,F0 k → k < w.heap.size) (hn:its.length ≤ 200) (hJ:Foot J) (hj0:HeldJ J p .nilFunc w) (hH:HeldC J F G caps hV) (he:∀ args W,(callFunc G args).run Tryz.prog W = .ok (.enter G args) W) :
  Calls Tryz.prog 110 #[.pointer (some ⟨p.m,0,none⟩),.func (.func G) #[] caps] w fun e w'=>∃ v,e = .returned v ∧ w'.ownsRow w.heap.size 180 3 v (leanGo its hV mk.dead its.length).2.length ((leanGo its hV mk.dead its.length).2.flatMap encS) ∧ MkM (fun k=>F0 k ∨ Fo v k) w' its p ⟨mk.objs,mk.made,(leanGo its hV mk.dead its.length).1⟩ ∧ Alt (fun k=>p.R k ∨ F k) w w':=by
 have hq:∀ W:World,(binOp .eql 42 (.func (.func G) #[] caps) .nilFunc).run Tryz.prog W = .ok (.bool false) W:=fun _=>by kernel_rfl
 have hc0:w.cell? ⟨p.m,0,none⟩ = some (.slice p.Ai its.length p.ci):=(hM.cells.at_ 0).trans rfl
 have hlc:=hM.items.1
 have hml:=hM.cells.lt
 have HRL:=Hy hM.R_lt
 have HM0:Hid (MkM (fun k=>F0 k ∨ Fo (.slice none 0 0) k) w its p ⟨mk.objs,mk.made,(leanGo its hV mk.dead 0).1⟩):=hM.keep (fun k hk=>by rcases hk with hk | hk; exact .inl hk; cases hk)
 have HH:=Hy hH
 have HE:=Hy he
 have HF0:=Hy hF0
 have HJ:=Hy hJ
 have HJ0:Hid (HeldJ J p (.slice none 0 0) w):=hj0.other hJ (fun k e=>by cases e)
 clear hM hH he hF0 hJ hj0
 go_enter Tryz.func110,Tryz.ntmps110
 go_wp2
 go_loopg [5,6,8,9,10,11,19] its.length (fun g s5 _ _ _ _ _ s19 wr=>∃ (k:Nat) (A9:Option Addr) (c9:Nat),s5 = .slice A9 (leanGo its hV mk.dead k).2.length c9 ∧ k ≤ its.length ∧ its.length - k ≤ g ∧ s19 = .int .i64 k ∧ (leanGo its hV mk.dead k).2.length ≤ k * 200 ∧ wr.ownsRow w.heap.size 180 3 (.slice A9 (leanGo its hV mk.dead k).2.length c9) (leanGo its hV mk.dead k).2.length ((leanGo its hV mk.dead k).2.flatMap encS) ∧ Hid (MkM (fun j=>F0 j ∨ Fo (.slice A9 (leanGo its hV mk.dead k).2.length c9) j) wr its p ⟨mk.objs,mk.made,(leanGo its hV mk.dead k).1⟩) ∧ Hid (Alt (fun j=>p.R j ∨ F j) w wr) ∧ Hid (HeldJ J p (.slice A9 (leanGo its hV mk.dead k).2.length c9) wr))
 case atStart=>exact ⟨0,none,0,rfl,Nat.zero_le _,by omega,rfl,Nat.zero_le _,by simpa [leanGo] using World.ownsRow_nil _ _ _ _,HM0,Hy (Alt.refl _ _),HJ0⟩
 case round=>
  obtain ⟨k,A9,c9,rfl,hk,hg,rfl,hacc,hown,hmk,hal,hjj⟩:=hrel
  by_cases hlt:k < its.length
  ·have hlt':(k:Int) < (its.length:Int):=by omega
   obtain ⟨bb,o,hAi,hr⟩:=hmk.out.items.2.2.2 (by omega)
   have hrk:=hr k hlt
   have hls:=leanGo_succ its hV mk.dead k
   obtain ⟨y,hy⟩:∃ y,y = its.getD k default:=⟨_,rfl⟩
   rw [← hy] at hrk hls
   have HRK:=Hy hrk
   have HLS:=Hy hls
   have HOW:=Hy hown
   have HBO:Hid (∀ j,(Value.slice A9 (leanGo its hV mk.dead k).2.length c9).ownBlock = some j → w.heap.size ≤ j ∧ j < wr.heap.size):=fun j hj=>HOW.out.lt j hj
   have hrlt:∀ j,p.R j → j < w.heap.size:=HRL.out
   have hz1:=hal.out.size
   obtain ⟨acc,hae⟩:∃ acc,acc = (leanGo its hV mk.dead k).2:=⟨_,rfl⟩
   obtain ⟨dd,hde⟩:∃ dd,dd = (leanGo its hV mk.dead k).1:=⟨_,rfl⟩
   have HAE:=Hy hae
   have HDE:=Hy hde
   rw [← hae] at HOW HBO hacc hmk hjj HLS ⊢
   rw [← hde] at hmk HLS
   clear hr hrk hy hls hown hae hde
   rw [hAi]
   go_upto_region 7 with (first
    | (refine wpList_load_mid rfl 34 _ rfl bb (o + k * 35) rfl (encI y) _ HRK.out Tryz.underlying34 rfl (infoI y) ?_)
    | (refine wpList_store_whole rfl 34 _ _ rfl wr.heap.size (encI y).toArray rfl rfl 34 _ (Whole.made wr _ _) (infoI_s y) (by rw [encI_size]; rfl) (encI_all y) ?_; intro w3 hWn hGn; have HW3:=Hy hWn; have D3:=Hy (made_below' hGn); clear hWn hGn))
   have HM3:=Hy (hmk.out.later D3.out)
   have HA3:=Hy (hal.out.below D3.out)
   have HOW3:=Hy (own_later HOW.out D3.out)
   have HJ3:=Hy (hjj.out.below HJ.out D3.out)
   have hw3:=HW3.out.lt
   have hs3:=D3.out.size
   clear hmk hal hjj HOW D3 HRK
   obtain ⟨N,A2,c2,V,hnm,hv2,hna,hnf⟩:∃ N A2 c2 V,OwnMap w3 p.mb N V ∧ V y.base = .slice A2 (waits its dd y.base).length c2 ∧ ArgZ w3 A2 c2 (waits its dd y.base) ∧ ∀ j,inBlk A2 j → 0 < (waits its dd y.base).length → ¬ F0 j:=by
    obtain ⟨N,V,h1,h2⟩:=HM3.out.names
    exact ⟨N,_,_,_,h1,rfl,(h2 y.base).1,fun j hj h0 hf=>((h2 y.base).2 j hj h0).2 (.inl hf)⟩
   have hwl:=waits_le its dd y.base
   obtain ⟨ns,hns⟩:∃ ns,ns = waits its dd y.base:=⟨_,rfl⟩
   rw [← hns] at hv2 hna hnf hwl HLS
   have HNS:=Hy hns
   have HNM:=Hy hnm
   have HNA:=Hy hna
   have HNF:=Hy hnf
   clear hns hnm hna hnf
   try simp only [Act.put]
   refine wp_region_K (fun W=>W.cell? ⟨p.m,4,none⟩ = some (.map (some p.mb)) ∧ W.rangeAt wr.heap.size 2 (encN y.base) ∧ (Instr.lookup 113 (.map (some p.mb)) (.agg (encN y.base).toArray) false).run Tryz.prog W = .ok (.slice A2 ns.length c2) W) 7 (by kernel_rfl) ?_
   change wpAnyK _ _ _ _ _ _ _ _ _ (World.drew w3)
   have hb6:=(Below.refl w3.heap.size w3).drew
   have HM6:=Hy (HM3.out.later hb6)
   have HW6:Hid (Whole (World.drew w3) wr.heap.size 34 (encI y).toArray):=HW3.out
   have HA6:=Hy (HA3.out.below hb6)
   have HJ6:=Hy (HJ3.out.below HJ.out hb6)
   have HOW6:=Hy (own_later HOW3.out hb6)
   have HNA6:=Hy (HNA.out.later hb6)
   have HNM6:Hid (OwnMap (World.drew w3) p.mb N V):=HNM.out.grown (grown_none hb6) (by simp)
   clear HM3 HW3 HA3 HOW3 HNA HNM HJ3 hb6
   have hw3:wr.heap.size < (World.drew w3).heap.size:=hw3
   generalize World.drew w3 = w6 at *
   have hlook:=HNM6.out.look y.base
   rw [hv2] at hlook
   have hS0:w6.cell? ⟨p.m,4,none⟩ = some (.map (some p.mb)) ∧ w6.rangeAt wr.heap.size 2 (encN y.base) ∧ (Instr.lookup 113 (.map (some p.mb)) (.agg (encN y.base).toArray) false).run Tryz.prog w6 = .ok (.slice A2 ns.length c2) w6:=⟨(HM6.out.cells.at_ 4).trans rfl,itm_base HW6.out,hlook⟩
   clear hlook
   refine wpAnyK_take0 (i:=0) (oi:=⟨some 24,_,_,_,_,none⟩) (v:=.pointer (some ⟨p.m,0,none⟩)) rfl (by kernel_rfl) (fun _ _ _ h=>h) (Or.inl ⟨by rfl,fun W hW=>?_⟩) (fun _=>hS0) ?_
   ·go_simp
   refine wpAnyK_take0 (i:=1) (oi:=⟨some 25,_,_,_,_,none⟩) (v:=.pointer (some ⟨p.m,0,none⟩)) rfl (by kernel_rfl) (fun _ _ _ h=>h) (Or.inl ⟨by rfl,fun W hW=>?_⟩) (fun _=>hS0) ?_
   ·go_simp
   refine wpAnyK_take0 (i:=2) (oi:=⟨some 26,_,_,_,_,none⟩) (v:=.pointer (some ⟨p.m,4,none⟩)) rfl (by kernel_rfl) (fun _ _ _ h=>h) (Or.inl ⟨by rfl,fun W hW=>?_⟩) (fun _=>hS0) ?_
   ·go_simp
   refine wpAnyK_take (i:=3) (oi:=⟨some 27,_,_,_,_,none⟩) (v:=.map (some p.mb)) rfl (by kernel_rfl) (fun _ _ _ h=>h) (Or.inl ⟨by rfl,fun W hW=>?_⟩) hS0 ?_
   ·obtain ⟨s0,s1,s2⟩:=hW
    go_simp
   refine wpAnyK_take0 (i:=4) (oi:=⟨some 28,_,_,_,_,none⟩) (v:=.pointer (some ⟨wr.heap.size,2,none⟩)) rfl (by kernel_rfl) (fun _ _ _ h=>h) (Or.inl ⟨by rfl,fun W hW=>?_⟩) (fun _=>hS0) ?_
   ·go_simp
   try simp only [Act.put]
   try go_simp
   refine wpAnyK_take (i:=5) (oi:=_) (v:=.agg (encN y.base).toArray) rfl (by kernel_rfl) (fun _ _ _ h=>h) (yieldsIf_load_mid (by rfl) _ _ rfl wr.heap.size (2) rfl (encN y.base) _ (fun W hW=>hW.2.1) Tryz.underlying30 rfl (infoN_l _)) hS0 ?_
   try simp only [Act.put]
   try go_simp
   refine wpAnyK_take (i:=6) (oi:=⟨some 30,_,_,_,_,none⟩) (v:=.slice A2 ns.length c2) rfl (by kernel_rfl) (fun _ _ _ h=>h) (Or.inl ⟨by rfl,fun W hW=>?_⟩) hS0 ?_
   ·obtain ⟨s0,s1,s2⟩:=hW
    go_simp
   try simp only [Act.put]
   try go_simp
   refine wpAnyK_ready (rs:=[7]) (by kernel_rfl) (by simp) ?_
   refine AllReadyK.cons (o:=_) rfl (fun K hK=>?_) AllReadyK.nil
   rw [if_pos (by rfl)]
   go_simp
   refine hK _ _ (fun h=>by cases h) ?_
   clear hK K hS0
   refine wpAnyK_done (by kernel_rfl) ?_ _
   try simp only [Act.put]
   try go_simp
   by_cases hh:ns.head? = some k
   ·obtain ⟨r,hnr⟩:∃ r,ns = k :: r:=by
     cases ns with
     | nil=>cases hh
     | cons a r=>injection hh with hh; exact ⟨r,by rw [hh]⟩
    subst hnr
    obtain ⟨g2,off2,rfl,hcz⟩:=ArgZ.spot HNA6.out (by simp)
    have hc:=hcz 0 (by simp)
    rw [Nat.add_zero] at hc
    have hc':w6.cell? ⟨g2,off2,none⟩ = some (.int .i64 (k:Int)):=hc
    have hlen0:decide ((0:Int) < (((k :: r).length:Nat):Int)) = true:=decide_eq_true (by simp only [List.length_cons]; omega)
    have hz0:((((k :: r).length:Nat):Int) == 0) = false:=by simp; omega
    have hne:((k:Int) != (k:Int)) = false:=by simp
    have HIB:=Hy (itm_base HW6.out)
    have hHc:=HJ6.out.call HH.out HM6.out.R_lt (fun j hj=>(HOW6.out.lt j hj).2) y.base
    have hee:=HE.out
    clear hc
    go_wp2_with (refine wpList_load_mid rfl 30 _ rfl wr.heap.size 2 rfl (encN y.base) _ HIB.out Tryz.underlying30 rfl (infoN_l _) ?_)
    refine hHc.mono ?_
    rintro e w7 ⟨rfl,⟨row7,hg7,hr7⟩,hj7⟩
    have HJ7:=Hy hj7
    have hrl7:∀ r,row7 = some r → r < w.heap.size:=fun r e=>HF0.out r (hFF r (hr7 r e))
    have HM7:=Hy (HM6.out.row hg7 (fun r e=>.inl (hFF r (hr7 r e))))
    have HW7:=Hy (HW6.out.grown hg7 (fun e=>by have:=hrl7 _ e.symm; omega))
    have HA7:=Hy (HA6.out.grown hg7 (fun j e=>.inr (.inr (hr7 j e))))
    have HOW7:=Hy (own_altR HOW6.out (Alt.of_grown (R:=fun j=>row7 = some j) hg7 (fun _ hj=>hj)) (fun j hj e=>by have:=(HOW6.out.lt j hj).1; have:=hrl7 _ e; omega))
    have HNA7:=Hy (HNA6.out.grown hg7 (fun j hj h0 e=>HNF.out j hj h0 (hFF j (hr7 j e.symm))))
    have hs7:=hg7.size
    clear hj7 hg7 hr7 hrl7 HJ6 hHc hee HIB HM6 HW6 HA6 HOW6 HNA6 HNM6 hc' hcz
    cases hok:(hV y.base).2.2
    ·have HLS2:Hid (leanGo its hV mk.dead (k + 1) = leanGo its hV mk.dead k):=by show _ = _; rw [HLS.out,if_neg (fun h=>by have h2:=h.2; rw [hok] at h2; cases h2)]
     go_wp2_with fail
     rw [← hAi]
     go_roundg (its.length - (k + 1))
     case measure=>omega
     case rel=>exact ⟨k + 1,A9,c9,by rw [HLS2.out,← HAE.out],by omega,Nat.le_refl _,by go_num,by rw [HLS2.out,← HAE.out]; omega,by rw [HLS2.out,← HAE.out]; exact HOW7.out,by rw [HLS2.out,← HAE.out,← HDE.out]; exact HM7,HA7,by rw [HLS2.out,← HAE.out]; exact HJ7⟩
    ·obtain ⟨L,hL⟩:∃ L,L = stepsV (k :: r) (hV y.base).1 (hV y.base).2.1:=⟨_,rfl⟩
     have hLl:L.length ≤ 200:=by rw [hL]; unfold stepsV; rw [List.length_map]; exact Nat.le_trans hwl hn
     have HLS2:Hid (leanGo its hV mk.dead (k + 1) = (y.base :: dd,acc ++ L)):=by show _ = _; rw [HLS.out,if_pos ⟨rfl,hok⟩,hL]
     have hso:=pstepsof_any (some ⟨g2,off2,none⟩) c2 (k :: r) (hV y.base).1 (hV y.base).2.1 w7 HNA7.out (Nat.le_trans hwl (by omega))
     rw [← hL,List.length_cons] at hso
     have HSO:=Hy hso
     clear hso hL
     go_wp2_with fail
     with_reducible refine HSO.out.mono ?_
     rintro e w8 ⟨⟨v8,rfl,hown8⟩,hb8⟩
     obtain ⟨A8,c8,rfl,hag8,-,-⟩:=own_argG eltS hown8
     have HM8:=Hy (HM7.out.later hb8)
     have HW8:=Hy (HW7.out.below hb8 (by omega))
     have HA8:=Hy (HA7.out.below hb8)
     have HJ8:=Hy (HJ7.out.below HJ.out hb8)
     have HOW8:=Hy (own_later HOW7.out hb8)
     have HAG8:=Hy hag8
     have HLL:Hid (acc.length + L.length ≤ 10000000):=by show _ ≤ _; omega
     have hz8:=hb8.size
     have HZ8:Hid (w.heap.size ≤ w8.heap.size):=by show _ ≤ _; omega
     clear hown8 hag8 hb8 HSO HM7 HW7 HA7 HOW7 HNA7 HJ7
     go_upto_region 12 with (at_builtin; go_loud (refine wpList_appendG_at eltS rfl _ _ rfl w.heap.size (.slice A9 acc.length c9) acc rfl A8 L.length c8 L rfl rfl ?_ HAG8.out HZ8.out HLL.out ?_; exact HOW8.out; intro v' w9 hown' hb9' hgr9 hat9; have HOW9:=Hy hown'; have HB9:=Hy hb9'; have HM9:=Hy (HM8.out.appended0 hgr9 hat9); have HJ9:=Hy (HJ8.out.append HJ.out hgr9 hat9); have HW9:=Hy (HW8.out.grown hgr9 (fun e=>by have:=(HBO.out _ e.symm).2; omega)); clear hown' hb9' hgr9 hat9))
     have hmw:∀ j,some p.mb = some j → p.R j:=fun j hj=>by injection hj with hj; exact .inr (.inr hj.symm)
     have HA9:Hid (Alt (fun j=>p.R j ∨ F j) w w9):=alt_belowB HA8.out HB9.out (Nat.le_refl _)
     clear HM8 HW8 HA8 HOW8 HAG8 HJ8
     obtain ⟨N9,V9,hnm9⟩:∃ N V,OwnMap w9 p.mb N V:=by
      obtain ⟨N,V,h1,-⟩:=HM9.out.names
      exact ⟨N,_,h1⟩
     have HNM9:=Hy hnm9
     clear hnm9
     try simp only [Act.put]
     refine wp_region_K (fun W=>W.cell? ⟨p.m,4,none⟩ = some (.map (some p.mb)) ∧ W.rangeAt wr.heap.size 2 (encN y.base)) 6 (by kernel_rfl) ?_
     change wpAnyK _ _ _ _ _ _ _ _ _ (World.drew w9)
     have hb10:=(Below.refl w9.heap.size w9).drew
     have HM10:=Hy (HM9.out.later hb10)
     have HA10:=Hy (HA9.out.below hb10)
     have HJ10:=Hy (HJ9.out.below HJ.out hb10)
     have HOW10:=Hy (own_later HOW9.out hb10)
     have HNM10:Hid (OwnMap (World.drew w9) p.mb N9 V9):=HNM9.out.grown (grown_none hb10) (by simp)
     have hS0:(World.drew w9).cell? ⟨p.m,4,none⟩ = some (.map (some p.mb)) ∧ (World.drew w9).rangeAt wr.heap.size 2 (encN y.base):=⟨(HM9.out.cells.at_ 4).trans rfl,itm_base HW9.out⟩
     clear HM9 HA9 HOW9 HNM9 hb10 HW9 HB9 HJ9
     generalize World.drew w9 = w10 at *
     refine wpAnyK_take0 (i:=0) (oi:=⟨some 56,_,_,_,_,none⟩) (v:=.pointer (some ⟨p.m,0,none⟩)) rfl (by kernel_rfl) (fun _ _ _ h=>h) (Or.inl ⟨by rfl,fun W hW=>?_⟩) (fun _=>hS0) ?_
     ·go_simp
     refine wpAnyK_take0 (i:=1) (oi:=⟨some 57,_,_,_,_,none⟩) (v:=.pointer (some ⟨p.m,0,none⟩)) rfl (by kernel_rfl) (fun _ _ _ h=>h) (Or.inl ⟨by rfl,fun W hW=>?_⟩) (fun _=>hS0) ?_
     ·go_simp
     refine wpAnyK_take0 (i:=2) (oi:=⟨some 58,_,_,_,_,none⟩) (v:=.pointer (some ⟨p.m,4,none⟩)) rfl (by kernel_rfl) (fun _ _ _ h=>h) (Or.inl ⟨by rfl,fun W hW=>?_⟩) (fun _=>hS0) ?_
     ·go_simp
     refine wpAnyK_take (i:=3) (oi:=⟨some 59,_,_,_,_,none⟩) (v:=.map (some p.mb)) rfl (by kernel_rfl) (fun _ _ _ h=>h) (Or.inl ⟨by rfl,fun W hW=>?_⟩) hS0 ?_
     ·obtain ⟨s0,s1⟩:=hW
      go_simp
     refine wpAnyK_take0 (i:=4) (oi:=⟨some 60,_,_,_,_,none⟩) (v:=.pointer (some ⟨wr.heap.size,2,none⟩)) rfl (by kernel_rfl) (fun _ _ _ h=>h) (Or.inl ⟨by rfl,fun W hW=>?_⟩) (fun _=>hS0) ?_
     ·go_simp
     try simp only [Act.put]
     try go_simp
     refine wpAnyK_take (i:=5) (oi:=_) (v:=.agg (encN y.base).toArray) rfl (by kernel_rfl) (fun _ _ _ h=>h) (yieldsIf_load_mid (by rfl) _ _ rfl wr.heap.size (2) rfl (encN y.base) _ (fun W hW=>hW.2) Tryz.underlying30 rfl (infoN_l _)) hS0 ?_
     try simp only [Act.put]
     try go_simp
     refine wpAnyK_ready (rs:=[6]) (by kernel_rfl) (by simp) ?_
     refine AllReadyK.cons (o:=_) rfl (fun K hK=>?_) AllReadyK.nil
     rw [if_pos (by rfl)]
     refine wp_delN _ _ rfl p.mb N9 V9 y.base rfl rfl HNM10.out (fun w11 hdl hgr=>?_)
     have hnb:(v':Value).ownBlock = none ∨ v'.ownBlock ≠ some p.mb:=by
      cases hq9:v'.ownBlock with
      | none=>exact .inl rfl
      | some j=>exact .inr (fun e=>by injection e with e; have:=(HOW10.out.lt j hq9).1; have:=hrlt p.mb (.inr (.inr rfl)); omega)
     have HM11:=Hy (HM10.out.del y.base hgr hdl)
     have HOW11:=Hy (HOW10.out.kept hgr hnb)
     have HA11:=Hy (HA10.out.grown hgr (fun j hj=>.inr (.inl (hmw j hj))))
     have HJ11:=Hy (HJ10.out.row HJ.out hgr hmw)
     clear HM10 HOW10 HA10 HNM10 HJ10 hdl hgr hnb hS0
     refine hK _ _ (fun h=>by cases h) ?_
     clear hK K
     refine wpAnyK_done (by kernel_rfl) ?_ _
     try simp only [Act.put]
     try go_simp
     obtain ⟨A6,c6,rfl,-,-,-⟩:=own_argG eltS HOW11.out
     go_wp2_with fail
     rw [← hAi]
     go_roundg (its.length - (k + 1))
     case measure=>omega
     case rel=>exact ⟨k + 1,A6,c6,by rw [HLS2.out]; show _ = Value.slice A6 (acc ++ L).length c6; rw [List.length_append],by omega,Nat.le_refl _,by go_num,by rw [HLS2.out]; show (acc ++ L).length ≤ _; rw [List.length_append]; omega,by rw [HLS2.out]; exact HOW11.out,by rw [HLS2.out]; exact HM11,HA11,by rw [HLS2.out]; exact HJ11.out⟩
   ·have HLS2:Hid (leanGo its hV mk.dead (k + 1) = leanGo its hV mk.dead k):=by show _ = _; rw [HLS.out,if_neg (fun h=>hh h.1)]
    cases ns with
    | nil=>
     go_wp2_with fail
     rw [← hAi]
     go_roundg (its.length - (k + 1))
     case measure=>omega
     case rel=>exact ⟨k + 1,A9,c9,by rw [HLS2.out,← HAE.out],by omega,Nat.le_refl _,by go_num,by rw [HLS2.out,← HAE.out]; omega,by rw [HLS2.out,← HAE.out]; exact HOW6.out,by rw [HLS2.out,← HAE.out,← HDE.out]; exact HM6,HA6,by rw [HLS2.out,← HAE.out]; exact HJ6⟩
    | cons n0 r=>
     obtain ⟨g2,off2,rfl,hcz⟩:=ArgZ.spot HNA6.out (by simp)
     have hc:=hcz 0 (by simp)
     rw [Nat.add_zero] at hc
     have hc':w6.cell? ⟨g2,off2,none⟩ = some (.int .i64 (n0:Int)):=hc
     have hlen0:decide ((0:Int) < (((n0 :: r).length:Nat):Int)) = true:=decide_eq_true (by simp only [List.length_cons]; omega)
     have hz0:((((n0 :: r).length:Nat):Int) == 0) = false:=by simp; omega
     have hne:((n0:Int) != (k:Int)) = true:=by
      have:n0 ≠ k:=fun e=>hh (by rw [e]; rfl)
      simp; omega
     clear hc hh
     go_wp2_with fail
     rw [← hAi]
     go_roundg (its.length - (k + 1))
     case measure=>omega
     case rel=>exact ⟨k + 1,A9,c9,by rw [HLS2.out,← HAE.out],by omega,Nat.le_refl _,by go_num,by rw [HLS2.out,← HAE.out]; omega,by rw [HLS2.out,← HAE.out]; exact HOW6.out,by rw [HLS2.out,← HAE.out,← HDE.out]; exact HM6,HA6,by rw [HLS2.out,← HAE.out]; exact HJ6⟩
  ·obtain rfl:k = its.length:=by omega
   have HOW:=Hy hown
   clear hown
   go_wp2
   go_ret
   exact ⟨_,rfl,HOW.out,hmk.out,hal.out⟩
end
section
open Go.RowKit Go.Lib Go.Sort
def cmpS (x y:Stp):Int:=if x.place < y.place then -1 else if y.place < x.place then 1 else 0
theorem ltOf_cmpS (x y:Stp):ltOf cmpS x y = decide (x.place < y.place):=by
 unfold ltOf cmpS
 by_cases h:x.place < y.place
 ·simp [h]
 ·by_cases h2:y.place < x.place
  ·simp [h,h2]
  ·simp [h,h2]
theorem swoS:SWO (ltOf cmpS) where
 irrefl:=by intro x; rw [ltOf_cmpS]; simp
 trans:=by intro x y z h k; rw [ltOf_cmpS,decide_eq_true_eq] at *; omega
 ntrans:=by intro x y z h k; rw [ltOf_cmpS] at *; simp only [decide_eq_false_iff_not] at *; omega
def RiseS (l:List Stp):Prop:=l.Pairwise fun a b=>a.place < b.place
theorem riseS_uniq:∀ {s t:List Stp},RiseS s → RiseS t → s.Perm t → s = t
 | [],t,_,_,hp=>by rw [List.nil_perm.1 hp]
 | a :: s,[],_,_,hp=>by have:=hp.length_eq; simp at this
 | a :: s,b :: t,hs,ht,hp=>by
  obtain ⟨h1,h2⟩:=List.pairwise_cons.1 hs
  obtain ⟨h3,h4⟩:=List.pairwise_cons.1 ht
  have hab:a = b:=by
   rcases List.mem_cons.1 (hp.mem_iff.1 List.mem_cons_self) with h | h
   ·exact h
   ·rcases List.mem_cons.1 (hp.mem_iff.2 (List.mem_cons_self (a:=b) (l:=t))) with k | k
    ·exact k.symm
    ·have:=h3 a h
     have:=h1 b k
     omega
  subst hab
  rw [riseS_uniq h2 h4 (List.Perm.cons_inv hp)]
theorem riseS_of {l d:List Stp} (hn:(l.map Stp.place).Nodup) (hp:d.Perm l) (ho:∀ i j,i < j → j < d.length → ¬ (d.getD j default).place < (d.getD i default).place):RiseS d:=by
 have hn2:(d.map Stp.place).Nodup:=(hp.map Stp.place).nodup_iff.2 hn
 unfold RiseS
 rw [List.pairwise_iff_getElem]
 intro i j hi hj hij
 have h1:=ho i j hij hj
 simp only [List.getD,List.getElem?_eq_getElem hi,List.getElem?_eq_getElem hj,Option.getD_some] at h1
 have h2:(d[i]).place ≠ (d[j]).place:=by
  intro e
  have:=List.pairwise_iff_getElem.1 hn2 i j (by simpa using hi) (by simpa using hj) hij
  simp only [List.getElem_map] at this
  exact this e
 omega
theorem sortS_rise {l:List Stp} (hn:(l.map Stp.place).Nodup):RiseS (sortS l):=by
 refine riseS_of hn (List.mergeSort_perm _ _) fun i j hij hj=>?_
 have:=List.pairwise_mergeSort (le:=fun (a b:Stp)=>decide (a.place ≤ b.place)) (by intro a b c h k; simp at *; omega) (by intro a b; simp; omega) l
 have h2:=List.pairwise_iff_getElem.1 this i j (by unfold sortS at hj; omega) hj hij
 simp only [List.getD]
 unfold sortS at *
 rw [List.getElem?_eq_getElem hj,List.getElem?_eq_getElem (by omega)]
 simp at h2 ⊢
 omega
theorem getS (d:List Stp) (i:Nat) (h:i < d.length):(d.toArray)[i]! = d.getD i default:=by
 rw [getElem!_pos d.toArray i (by simpa using h)]
 simp [List.getD,List.getElem?_eq_getElem h]
theorem encS_len (s:Stp):(encS s).length = 3:=rfl
theorem holds_rowS {w:World} {b o:Nat} {d:List Stp} (h:HoldsK encS 3 w b o d.toArray):RowG encS default 3 w b o d ∧ ∀ i,i < d.length * 3 → w.frozen? ⟨b,o + i,none⟩ = false:=by
 refine ⟨fun i hi j v hv=>?_,fun i hi=>?_⟩
 ·have hj:j < 3:=by
   have:=(List.getElem?_eq_some_iff.1 hv).1
   rwa [encS_len] at this
  have:=(h.cell (i:=i) (c:=j) (by simpa using hi) hj).1
  rw [this,getS d i hi,getElem!_pos _ _ (by rw [encS_len]; exact hj)]
  rw [List.getElem?_eq_getElem (by rw [encS_len]; exact hj)] at hv
  exact hv
 ·have:=(h.cell (i:=i / 3) (c:=i % 3) (by simp; omega) (by omega)).2
  rw [show o + i / 3 * 3 + i % 3 = o + i by omega] at this
  exact this
theorem row_holdsS {w:World} {b o:Nat} {d:List Stp} (h:RowG encS default 3 w b o d) (hf:∀ i,i < d.length * 3 → w.frozen? ⟨b,o + i,none⟩ = false):HoldsK encS 3 w b o d.toArray:=by
 intro t ht
 have ht':t < d.length * 3:=by simpa using ht
 rw [get_flatK _ _ _ _ (by simpa using ht')]
 refine ⟨?_,hf t ht'⟩
 have hl:=encS_len (d.getD (t / 3) default)
 have:=h (t / 3) (by omega) (t % 3) _ (List.getElem?_eq_getElem (by omega))
 rw [show o + t / 3 * 3 + t % 3 = o + t by omega] at this
 rw [this,getS d _ (by omega)]
 show _ = some (encS _)[_]!
 rw [getElem!_pos _ _ (by rw [encS_len]; omega)]
theorem cmpint_any (x y:Nat) (w:World):Calls Tryz.prog 113 #[.int .i64 (x:Int),.int .i64 (y:Int)] w fun e w'=>e = .returned (.int .i64 (if x < y then -1 else if y < x then 1 else 0)) ∧ w = w':=by
 have hnan:∀ (i:Int) W,Calls Tryz.prog 168 #[.int .i64 i] W fun e w'=>e = .returned (.bool false) ∧ W = w':=fun i W=>by
  go_enter Tryz.func168,Tryz.ntmps168
  go_wp2
  go_ret
  exact ⟨rfl,rfl⟩
 by_cases h1:x < y
 ·rw [if_pos h1]
  have k1:decide ((x:Int) < (y:Int)) = true:=decide_eq_true (by omega)
  go_enter Tryz.func113,Tryz.ntmps113
  go_wp2_with (go_at_call 168; refine (hnan _ _).mono ?_; rintro e w' ⟨rfl,rfl⟩)
  go_ret
  exact ⟨rfl,rfl⟩
 ·rw [if_neg h1]
  have k1:decide ((x:Int) < (y:Int)) = false:=decide_eq_false (by omega)
  by_cases h2:y < x
  ·rw [if_pos h2]
   have k2:decide ((x:Int) > (y:Int)) = true:=decide_eq_true (by omega)
   go_enter Tryz.func113,Tryz.ntmps113
   go_wp2_with (go_at_call 168; refine (hnan _ _).mono ?_; rintro e w' ⟨rfl,rfl⟩)
   go_ret
   exact ⟨rfl,rfl⟩
  ·rw [if_neg h2]
   have k2:decide ((x:Int) > (y:Int)) = false:=decide_eq_false (by omega)
   go_enter Tryz.func113,Tryz.ntmps113
   go_wp2_with (go_at_call 168; refine (hnan _ _).mono ?_; rintro e w' ⟨rfl,rfl⟩)
   go_ret
   exact ⟨rfl,rfl⟩
theorem cmps_any (x y:Stp) (w:World):Calls Tryz.prog 112 #[.agg (encS x).toArray,.agg (encS y).toArray] w fun e w'=>e = .returned (.int .i64 (cmpS x y)) ∧ ∃ q os,w' = Sort.grow (w.drewN q) os:=by
 have HC:Hid (∀ W,Calls Tryz.prog 113 #[.int .i64 (x.place:Int),.int .i64 (y.place:Int)] W fun e w'=>e = .returned (.int .i64 (cmpS x y)) ∧ W = w'):=fun W=>cmpint_any x.place y.place W
 have hW1:=Whole.past (Whole.made w 180 (encS x).toArray) (.cells (encS y).toArray 180)
 have hW2:=Whole.made (w.alloc (.cells (encS x).toArray 180)) 180 (encS y).toArray
 have e1:=stp_place hW1
 have e2:=stp_place hW2
 have hsz:(w.alloc (.cells (encS x).toArray 180)).heap.size = w.heap.size + 1:=by simp
 rw [hsz] at e2
 clear hW1 hW2
 have HG:Hid (((w.alloc (.cells (encS x).toArray 180)).alloc (.cells (encS y).toArray 180)) = Sort.grow (w.drewN 0) #[.cells (encS x).toArray 180 (0,0),.cells (encS y).toArray 180 (0,0)]):=by
  show _ = _
  rw [alloc_eq_grow,alloc_eq_grow,grow_grow]
  rfl
 go_enter Tryz.func112,Tryz.ntmps112
 go_wp2_with fail
 refine (HC.out _).mono ?_
 rintro e w' ⟨rfl,rfl⟩
 go_wp2
 go_ret
 exact ⟨rfl,0,_,HG.out⟩
theorem sortf_stp (g cap:Nat) (l:List Stp) (w:World) (h:RowG encS default 3 w g 0 l) (hf:∀ i,i < l.length * 3 → w.frozen? ⟨g,0 + i,none⟩ = false) (hg:g < w.heap.size) (hl:l.length ≤ 1048576) (hn:(l.map Stp.place).Nodup) :
  Calls Tryz.prog 111 #[.slice (some ⟨g,0,none⟩) l.length cap,.func (.func 112) #[] #[]] w fun e w'=>e = .returned (.tuple #[]) ∧ RowG encS default 3 w' g 0 (sortS l) ∧ w.grownBy w' (some g):=by
 have eg:∀ args w,(callFunc 112 args).run Tryz.prog w = .ok (.enter 112 args) w:=enters_of Tryz.func112 (by kernel_rfl) rfl
 have hH:=row_holdsS h hf
 have:=AnyQ.slices_SortFunc Tryz.srtStp 3 Tryz.isAgg180 Tryz.sizeOf180 encS encS_len eltS.one cmpS swoS 112 #[] g 0 cap l.toArray w eg (fun _ _ _ _ x y=>cmps_any x y _) hH hg (by simp; omega)
 refine this.mono ?_
 rintro e w' ⟨rfl,d',n,os,hp,hs,rfl⟩
 obtain ⟨hsz,-,hperm⟩:=hp
 rw [show l.toArray.size = d'.size from hsz.symm,Array.extract_size,show d'.size = l.toArray.size from hsz,Array.extract_size] at hperm
 have hlen:d'.toList.length = l.length:=by simpa using hsz
 have hput:HoldsK encS 3 (putRowK encS 3 (Sort.ahead w n) g 0 d') g 0 d':=holdsK_putRowK encS 3 (Sort.ahead w n) g 0 l.toArray d' (holdsK_ahead encS 3 w n g 0 _ hH) hsz
 have hgr:w.grownBy (sortWorldK encS 3 w g 0 n d' os) (some g):=by
  refine ⟨rfl,rfl,rfl,by simp [sortWorldK,putRowK],fun k hk hne=>?_⟩
  unfold sortWorldK putRowK
  rw [heap_grow_old _ _ (by simpa using hk)]
  have:g ≠ k:=fun e=>hne (by rw [e])
  simp [putRow,mapBlock,Sort.ahead,Array.getElem?_modify,this]
 have hgl:g < (putRowK encS 3 (Sort.ahead w n) g 0 d').heap.size:=by
  simpa [putRowK] using hg
 have hhold:HoldsK encS 3 (sortWorldK encS 3 w g 0 n d' os) g 0 d'.toList.toArray:=by
  rw [Array.toArray_toList]
  exact holdsK_grow encS 3 _ os g 0 d' hgl hput
 obtain ⟨hrow,hfz⟩:=holds_rowS hhold
 have hor:∀ i j,i < j → j < d'.toList.length → ¬ (d'.toList.getD j default).place < (d'.toList.getD i default).place:=fun i j hij hj=>by
  have:=hs i j (Nat.zero_le _) hij (by rw [← hsz]; simpa using hj)
  rw [ltOf_cmpS,decide_eq_false_iff_not] at this
  have e:∀ i,i < d'.toList.length → d'[i]! = d'.toList.getD i default:=fun i hi=>by
   have:=getS d'.toList i hi
   rwa [Array.toArray_toList] at this
  rwa [e i (by omega),e j hj] at this
 have hperm':d'.toList.Perm l:=by simpa using hperm
 have heq:d'.toList = sortS l:=riseS_uniq (riseS_of hn hperm' hor) (sortS_rise hn) (hperm'.trans (List.mergeSort_perm _ _).symm)
 rw [← heq]
 exact ⟨rfl,hrow,hgr⟩
end
section
open Go.RowKit
theorem roundGo_len (its:List It) (ds:Nat → Dlt):∀ (l:List Stp) (mk:Mk) (acc:List Stp),(roundGo its ds l mk acc).2.2.length ≤ acc.length + l.length * (its.length + its.length)
 | [],mk,acc=>by simp [roundGo]
 | s :: r,mk,acc=>by
  rw [roundGo_cons]
  by_cases h:(takeV its ds s).2 = 0
  ·rw [if_pos h]
   refine Nat.le_trans (roundGo_len its ds r _ _) ?_
   have h1:=backsTo_le its its.length s.place
   have h2:=waits_le its mk.dead (idO (getOb s.kind (takeV its ds s).1).1)
   rw [List.length_append,stepsV,List.length_map,List.length_append,List.length_cons,Nat.add_mul,Nat.one_mul]
   omega
  ·rw [if_neg h]
   exact Nat.le_add_right _ _
theorem roundGo_made (its:List It) (ds:Nat → Dlt):∀ (l:List Stp) (mk:Mk) (acc:List Stp),(roundGo its ds l mk acc).2.1.made ≤ mk.made + l.length
 | [],mk,acc=>by simp [roundGo]
 | s :: r,mk,acc=>by
  rw [roundGo_cons]
  by_cases h:(takeV its ds s).2 = 0
  ·rw [if_pos h]
   refine Nat.le_trans (roundGo_made its ds r _ _) ?_
   rw [List.length_cons]
   show mk.made + 1 + r.length ≤ _
   omega
  ·rw [if_neg h]
   exact Nat.le_add_right _ _
theorem leanGo_len (its:List It) (hV:Nm → Int × List UInt8 × Bool) (dead:List Nm):∀ k,(leanGo its hV dead k).2.length ≤ k * its.length
 | 0=>by simp [leanGo]
 | k + 1=>by
  have ih:=leanGo_len its hV dead k
  rw [leanGo_succ]
  split
  ·have h2:=waits_le its (leanGo its hV dead k).1 (its.getD k default).base
   rw [List.length_append,stepsV,List.length_map,Nat.add_mul,Nat.one_mul]
   omega
  ·rw [Nat.add_mul]
   omega
theorem roundsGo_nil (its:List It) (ds:Nat → Dlt) (f last:Nat) (mk:Mk):roundsGo its ds f last mk [] = some (0,last,mk):=by
 cases f <;> simp [roundsGo]
theorem roundsGo_cons (its:List It) (ds:Nat → Dlt) (f last:Nat) (mk:Mk) (l:List Stp) (hl:l ≠ []) (q:Int × Nat × Mk) (h:roundsGo its ds f last mk l = some q) :
  ∃ f',f = f' + 1 ∧ okSteps its l ∧ (((roundGo its ds (sortS l) mk []).1 = 0 ∧ roundsGo its ds f' (last + 1) (roundGo its ds (sortS l) mk []).2.1 (roundGo its ds (sortS l) mk []).2.2 = some q) ∨ ((roundGo its ds (sortS l) mk []).1 ≠ 0 ∧ q = ((roundGo its ds (sortS l) mk []).1,0,(roundGo its ds (sortS l) mk []).2.1))):=by
 cases f with
 | zero=>
  unfold roundsGo at h
  rw [if_neg hl] at h
  cases h
 | succ f=>
  unfold roundsGo at h
  rw [if_neg hl] at h
  by_cases hok:okSteps its l
  ·rw [if_pos hok] at h
   refine ⟨f,rfl,hok,?_⟩
   by_cases h0:(roundGo its ds (sortS l) mk []).1 = 0
   ·rw [if_pos h0] at h
    exact .inl ⟨h0,h⟩
   ·rw [if_neg h0] at h
    injection h with h
    exact .inr ⟨h0,h.symm⟩
  ·rw [if_neg hok] at h
   cases h
def roundsV (its:List It) (ds:Nat → Dlt) (hV:Option (Nm → Int × List UInt8 × Bool)) (fuel:Nat) (mk:Mk):Option (Int × Nat × Mk):=
 if (roundGo its ds (wholesV its its.length) mk []).1 = 0 then
  roundsGo its ds fuel 0 ⟨(roundGo its ds (wholesV its its.length) mk []).2.1.objs,(roundGo its ds (wholesV its its.length) mk []).2.1.made,(leanV its hV (roundGo its ds (wholesV its its.length) mk []).2.1.dead).1⟩ ((roundGo its ds (wholesV its its.length) mk []).2.2 ++ (leanV its hV (roundGo its ds (wholesV its its.length) mk []).2.1.dead).2)
 else some ((roundGo its ds (wholesV its its.length) mk []).1,0,(roundGo its ds (wholesV its its.length) mk []).2.1)
def HeldV (F:Nat → Prop) (p:Mng) (w:World) (fv:Value) (hV:Option (Nm → Int × List UInt8 × Bool)):Prop:=
 (fv = .nilFunc ∧ hV = none) ∨ ∃ G caps f J,fv = .func (.func G) #[] caps ∧ hV = some f ∧ (∀ args W,(callFunc G args).run Tryz.prog W = .ok (.enter G args) W) ∧ Foot J ∧ HeldJ J p .nilFunc w ∧ HeldC J F G caps f
theorem HeldV.alt {F:Nat → Prop} {p:Mng} {w w':World} {fv:Value} {hV:Option (Nm → Int × List UInt8 × Bool)} (h:HeldV F p w fv hV) (ha:Alt p.R w w'):HeldV F p w' fv hV:=by
 rcases h with h | ⟨G,caps,f,J,h1,h2,h3,h4,h5,h6⟩
 ·exact .inl h
 ·exact .inr ⟨G,caps,f,J,h1,h2,h3,h4,h5.alt h4 ha (fun k hk=>.inl hk),h6⟩
theorem plean_held (F0 F:Nat → Prop) (hFF:∀ k,F k → F0 k) (its:List It) (p:Mng) (mk:Mk) (fv:Value) (hV:Option (Nm → Int × List UInt8 × Bool)) (w:World) (hM:MkM F0 w its p mk) (hF0:∀ k,F0 k → k < w.heap.size) (hn:its.length ≤ 200) (hH:HeldV F p w fv hV) :
  Calls Tryz.prog 110 #[.pointer (some ⟨p.m,0,none⟩),fv] w fun e w'=>∃ v,e = .returned v ∧ w'.ownsRow w.heap.size 180 3 v (leanV its hV mk.dead).2.length ((leanV its hV mk.dead).2.flatMap encS) ∧ MkM (fun k=>F0 k ∨ Fo v k) w' its p ⟨mk.objs,mk.made,(leanV its hV mk.dead).1⟩ ∧ Alt (fun k=>p.R k ∨ F k) w w':=by
 rcases hH with ⟨rfl,rfl⟩ | ⟨G,caps,f,J,rfl,rfl,he,hJ,hj,hc⟩
 ·refine (plean_nil p.m w).mono ?_
  rintro e w' ⟨rfl,rfl⟩
  exact ⟨_,rfl,by simpa [leanV] using World.ownsRow_nil _ _ _ _,hM.keep (fun k hk=>by rcases hk with hk | hk; exact .inl hk; cases hk),Alt.refl _ _⟩
 ·exact plean_any F0 F hFF its p mk G caps f w J hM hF0 hn hJ hj hc he
theorem plean_len (its:List It) (hV:Option (Nm → Int × List UInt8 × Bool)) (dead:List Nm) (hn:its.length ≤ 200):(leanV its hV dead).2.length ≤ 40000:=by
 cases hV with
 | none=>simp [leanV]
 | some f=>
  have:=leanGo_len its f dead its.length
  have h2:its.length * its.length ≤ 200 * 200:=Nat.mul_le_mul hn hn
  show (leanGo its f dead its.length).2.length ≤ _
  omega
theorem sort_own {w:World} {B:Nat} {A:Option Addr} {c:Nat} {l:List Stp} (h:w.ownsRow B 180 3 (.slice A l.length c) l.length (l.flatMap encS)) (h0:l ≠ []) :
  ∃ g,A = some ⟨g,0,none⟩ ∧ B ≤ g ∧ g < w.heap.size ∧ RowG encS default 3 w g 0 l ∧ (∀ i,i < l.length * 3 → w.frozen? ⟨g,0 + i,none⟩ = false) ∧ l.length ≤ c ∧ c ≤ maxLen:=by
 have hrow:=h
 rcases h.2 with ⟨h1,h2⟩ | ⟨g,cap,cur,hv,hB,hg,hn,hm,hs,ht⟩
 ·exact absurd (List.length_eq_zero_iff.1 h2) h0
 ·injection hv with e1 e2 e3
  subst e1
  subst e3
  have hw:Whole w g 180 cur:=hg
  exact ⟨g,rfl,hB,hw.lt,own_rowG eltS hrow,fun i _=>hw.thawed _,hn,hm⟩
end
end Go.Proofs.YtlfmooihcigolaaGreatDoor
