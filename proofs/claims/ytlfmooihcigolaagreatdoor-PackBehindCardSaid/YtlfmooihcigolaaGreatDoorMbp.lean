/-
  BodR.
-/
import Derived.Test.YtlfmooihcigolaaGreatDoorMbo
set_option maxRecDepth 100000
set_option maxHeartbeats 8000000
namespace Go.Proofs.YtlfmooihcigolaaGreatDoor
open Go.RowKit
theorem pbegin_any (A:Option Addr) (c:Nat) (its:List It) (w:World) (hA:ArgG encI default 35 w A c its) (hn:its.length ≤ 200) :
  Calls Tryz.prog 60 #[.slice A its.length c] w fun e w'=>∃ p:Mng,e = .returned (.pointer (some ⟨p.m,0,none⟩)) ∧ (∀ F:Nat → Prop,(∀ k,F k → k < w.heap.size) → (∀ j,inBlk A j → 0 < its.length → ¬ F j) → MkM F w' its p (mk0 its)) ∧ Below w.heap.size w w' ∧ p.Ai = A ∧ p.ci = c ∧ ∀ k,(p.R k ∨ k = p.gb) → w.heap.size ≤ k:=by
 have hmo:=make_objs its.length hn
 have hmr:=make_rows its.length hn
 have hmm:=@run_makeMap Tryz.prog
 have HA:=Hy hA
 have hlc:=hA.1
 clear hA
 obtain ⟨n,hne⟩:∃ n,n = its.length:=⟨_,rfl⟩
 rw [← hne] at hmo hmr hlc hn ⊢
 have HN:=Hy hne
 clear hne
 go_enter Tryz.func60,Tryz.ntmps60
 go_upto_region 1 with fail
 refine Code.wp_mono (Q:=fun e a' W=>e = .normal ∧ ∃ m go gb mb,a' = begAct A n c m go gb mb ∧ BegF A n c m go gb mb w W) ?_ ?_
 ·rintro e a' W ⟨rfl,m,go,gb,mb,rfl,hF⟩
  clear hmo hmr hmm
  have hne:=HN.out
  subst hne
  have HBG:=Hy hF.begM
  clear hF
  unfold begAct
  go_wp2_with fail
  obtain ⟨B,hBe⟩:∃ B,B = W.heap.size:=⟨_,rfl⟩
  rw [← hBe] at HBG
  clear hBe
  go_loopg [4,18] its.length (fun g _ s18 wr=>∃ (k:Nat) (R:Slot → Value) (N:Nat),k ≤ its.length ∧ its.length - k ≤ g ∧ s18 = .int .i64 k ∧ Hid (BegM its A c m go gb mb B k w wr R N))
  case atStart=>exact ⟨0,_,0,Nat.zero_le _,by omega,rfl,HBG⟩
  case round=>
   obtain ⟨k,R,N,hk,hg,rfl,hbm⟩:=hrel
   by_cases hlt:k < its.length
   ·have hlt':(k:Int) < (its.length:Int):=by omega
    obtain ⟨bb,o,rfl,hr⟩:=(HA.out.later eltI hbm.out.w_).2.2.2 (by omega)
    have hrk:=hr k hlt
    obtain ⟨y,hy⟩:∃ y,y = its.getD k default:=⟨_,rfl⟩
    have hsb:=slotL_back its k
    have hsn:=slotL_name its k
    have hs0:=slotL_none its k
    rw [← hy] at hrk hsb hsn hs0
    have HRK:=Hy hrk
    have HSB:=Hy hsb
    have HSN:=Hy hsn
    have HS0:=Hy hs0
    have HPB:=Hy fun W=>pback_any y.back k W
    have HLT:Hid (∀ s r,(R s).ownBlock = some r → B ≤ r ∧ r < wr.heap.size):=fun s r hr=>(hbm.out.r_.own s).lt r hr
    have HGB:=Hy hbm.out.l_
    have hzB:=hbm.out.z_
    have hnk:=hbm.out.n_
    clear hr hrk hy hsb hsn hs0
    go_upto_region 5 with (first
     | (refine wpList_load_mid rfl 34 _ rfl bb (o + k * 35) rfl (encI y) _ HRK.out Tryz.underlying34 rfl (infoI y) ?_)
     | (refine wpList_store_whole rfl 34 _ _ rfl wr.heap.size (encI y).toArray rfl rfl 34 _ (Whole.made wr _ _) (infoI_s y) (by rw [encI_size]; rfl) (encI_all y) ?_; intro w3 hWn hGn; have HW3:=Hy hWn; have D3:=Hy (made_below' hGn); clear hWn hGn))
    have HB3:=Hy (hbm.out.later D3.out)
    have e0:=itm_kind HW3.out
    have e1:=itm_back HW3.out
    have hw3:=HW3.out.lt
    clear hbm D3 HRK
    by_cases h6:y.kind = 6
    ·rw [h6] at e0
     by_cases hbk:1 ≤ y.back ∧ y.back ≤ k
     ·rw [decide_eq_true hbk.1,decide_eq_true hbk.2] at HPB
      have hsl:=HSB.out h6 hbk.1 hbk.2
      go_upto_region 6 with (go_at_call 103; refine (HPB.out _).mono ?_; rintro e w' ⟨rfl,rfl⟩)
      obtain ⟨j,hj⟩:∃ j,j = k - y.back:=⟨_,rfl⟩
      rw [← hj] at hsl
      have hsub:(k:Int) - (y.back:Int) = (j:Int):=by omega
      have hjn:j < its.length:=by omega
      have hjn':(j:Int) < (its.length:Int):=by omega
      have hLl:=slotL_len its k (.inl j)
      clear hj
      try simp only [Act.put]
      refine wp_region_K (fun W=>W.cell? ⟨m,3,none⟩ = some (.slice (some ⟨gb,0,none⟩) its.length its.length) ∧ W.cell? ⟨wr.heap.size,1,none⟩ = some (.int .i64 (y.back:Int)) ∧ W.cell? ⟨gb,j,none⟩ = some (R (.inl j))) 22 (by kernel_rfl) ?_
      change wpAnyK _ _ _ _ _ _ _ _ _ (World.drew w3)
      have HB6:=Hy (HB3.out.later (Below.refl w3.heap.size w3).drew)
      have hS0:(World.drew w3).cell? ⟨m,3,none⟩ = some (.slice (some ⟨gb,0,none⟩) its.length its.length) ∧ (World.drew w3).cell? ⟨wr.heap.size,1,none⟩ = some (.int .i64 (y.back:Int)) ∧ (World.drew w3).cell? ⟨gb,j,none⟩ = some (R (.inl j)):=⟨(HB3.out.m_.at_ 3).trans rfl,e1,(HB3.out.b_.at_ j).trans (rowsA_at R its.length j hjn)⟩
      clear HB3 e0 e1 HW3
      generalize World.drew w3 = w6 at *
      refine wpAnyK_take0 (i:=0) (oi:=⟨some 33,_,_,_,_,none⟩) (v:=.pointer (some ⟨m,0,none⟩)) rfl (by kernel_rfl) (fun _ _ _ h=>h) (Or.inl ⟨by rfl,fun W hW=>?_⟩) (fun _=>hS0) ?_
      ·go_simp
      refine wpAnyK_take0 (i:=1) (oi:=⟨some 34,_,_,_,_,none⟩) (v:=.pointer (some ⟨m,0,none⟩)) rfl (by kernel_rfl) (fun _ _ _ h=>h) (Or.inl ⟨by rfl,fun W hW=>?_⟩) (fun _=>hS0) ?_
      ·go_simp
      refine wpAnyK_take0 (i:=2) (oi:=⟨some 35,_,_,_,_,none⟩) (v:=.pointer (some ⟨m,3,none⟩)) rfl (by kernel_rfl) (fun _ _ _ h=>h) (Or.inl ⟨by rfl,fun W hW=>?_⟩) (fun _=>hS0) ?_
      ·go_simp
      refine wpAnyK_take (i:=3) (oi:=⟨some 36,_,_,_,_,none⟩) (v:=.slice (some ⟨gb,0,none⟩) its.length its.length) rfl (by kernel_rfl) (fun _ _ _ h=>h) (Or.inl ⟨by rfl,fun W hW=>?_⟩) hS0 ?_
      ·obtain ⟨s0,s1,s2⟩:=hW
       go_simp
      refine wpAnyK_take0 (i:=4) (oi:=⟨some 37,_,_,_,_,none⟩) (v:=.int .i64 (k:Int)) rfl (by kernel_rfl) (fun _ _ _ h=>h) (Or.inl ⟨by rfl,fun W hW=>?_⟩) (fun _=>hS0) ?_
      ·go_simp
      refine wpAnyK_take0 (i:=5) (oi:=⟨some 38,_,_,_,_,none⟩) (v:=.pointer (some ⟨wr.heap.size,1,none⟩)) rfl (by kernel_rfl) (fun _ _ _ h=>h) (Or.inl ⟨by rfl,fun W hW=>?_⟩) (fun _=>hS0) ?_
      ·go_simp
      refine wpAnyK_take (i:=6) (oi:=⟨some 39,_,_,_,_,none⟩) (v:=.int .i64 (y.back:Int)) rfl (by kernel_rfl) (fun _ _ _ h=>h) (Or.inl ⟨by rfl,fun W hW=>?_⟩) hS0 ?_
      ·obtain ⟨s0,s1,s2⟩:=hW
       go_simp
      try simp only [Act.put]
      try go_simp
      refine wpAnyK_take0 (i:=7) (oi:=⟨some 40,_,_,_,_,none⟩) (v:=.int .i64 (j:Int)) rfl (by kernel_rfl) (fun _ _ _ h=>h) (Or.inl ⟨by rfl,fun W hW=>?_⟩) (fun _=>hS0) ?_
      ·go_simp
       rw [IntKind.wrap_i64]
       omega
      refine wpAnyK_take0 (i:=8) (oi:=⟨some 41,_,_,_,_,none⟩) (v:=.pointer (some ⟨m,0,none⟩)) rfl (by kernel_rfl) (fun _ _ _ h=>h) (Or.inl ⟨by rfl,fun W hW=>?_⟩) (fun _=>hS0) ?_
      ·go_simp
      refine wpAnyK_take0 (i:=9) (oi:=⟨some 42,_,_,_,_,none⟩) (v:=.pointer (some ⟨m,0,none⟩)) rfl (by kernel_rfl) (fun _ _ _ h=>h) (Or.inl ⟨by rfl,fun W hW=>?_⟩) (fun _=>hS0) ?_
      ·go_simp
      refine wpAnyK_take0 (i:=10) (oi:=⟨some 43,_,_,_,_,none⟩) (v:=.pointer (some ⟨m,3,none⟩)) rfl (by kernel_rfl) (fun _ _ _ h=>h) (Or.inl ⟨by rfl,fun W hW=>?_⟩) (fun _=>hS0) ?_
      ·go_simp
      refine wpAnyK_take (i:=11) (oi:=⟨some 44,_,_,_,_,none⟩) (v:=.slice (some ⟨gb,0,none⟩) its.length its.length) rfl (by kernel_rfl) (fun _ _ _ h=>h) (Or.inl ⟨by rfl,fun W hW=>?_⟩) hS0 ?_
      ·obtain ⟨s0,s1,s2⟩:=hW
       go_simp
      refine wpAnyK_take0 (i:=12) (oi:=⟨some 45,_,_,_,_,none⟩) (v:=.int .i64 (k:Int)) rfl (by kernel_rfl) (fun _ _ _ h=>h) (Or.inl ⟨by rfl,fun W hW=>?_⟩) (fun _=>hS0) ?_
      ·go_simp
      refine wpAnyK_take0 (i:=13) (oi:=⟨some 46,_,_,_,_,none⟩) (v:=.pointer (some ⟨wr.heap.size,1,none⟩)) rfl (by kernel_rfl) (fun _ _ _ h=>h) (Or.inl ⟨by rfl,fun W hW=>?_⟩) (fun _=>hS0) ?_
      ·go_simp
      refine wpAnyK_take (i:=14) (oi:=⟨some 47,_,_,_,_,none⟩) (v:=.int .i64 (y.back:Int)) rfl (by kernel_rfl) (fun _ _ _ h=>h) (Or.inl ⟨by rfl,fun W hW=>?_⟩) hS0 ?_
      ·obtain ⟨s0,s1,s2⟩:=hW
       go_simp
      try simp only [Act.put]
      try go_simp
      refine wpAnyK_take0 (i:=15) (oi:=⟨some 48,_,_,_,_,none⟩) (v:=.int .i64 (j:Int)) rfl (by kernel_rfl) (fun _ _ _ h=>h) (Or.inl ⟨by rfl,fun W hW=>?_⟩) (fun _=>hS0) ?_
      ·go_simp
       rw [IntKind.wrap_i64]
       omega
      try simp only [Act.put]
      try go_simp
      refine wpAnyK_take0 (i:=16) (oi:=⟨some 49,_,_,_,_,none⟩) (v:=.pointer (some ⟨gb,j,none⟩)) rfl (by kernel_rfl) (fun _ _ _ h=>h) (Or.inl ⟨by rfl,fun W hW=>?_⟩) (fun _=>hS0) ?_
      ·go_simp
      try simp only [Act.put]
      try go_simp
      refine wpAnyK_take (i:=17) (oi:=⟨some 50,_,_,_,_,none⟩) (v:=R (.inl j)) rfl (by kernel_rfl) (fun _ _ _ h=>h) (Or.inl ⟨by rfl,fun W hW=>?_⟩) hS0 ?_
      ·obtain ⟨s0,s1,s2⟩:=hW
       go_simp
      refine wpAnyK_take0 (i:=18) (oi:=⟨some 51,_,_,_,_,none⟩) (v:=.int .i64 (k:Int)) rfl (by kernel_rfl) (fun _ _ _ h=>h) (Or.inl ⟨by rfl,fun W hW=>?_⟩) (fun _=>hS0) ?_
      ·go_simp
      try simp only [Act.put]
      try go_simp
      refine wpAnyK_ready (rs:=[19]) (by kernel_rfl) (by simp) ?_
      refine AllReadyK.cons (o:=_) rfl (fun K hK=>?_) AllReadyK.nil
      rw [if_pos (by rfl)]
      go_simp
      have HB7:=Hy (HB6.out.later ((Below.refl w6.heap.size w6).alloc (Nat.le_refl _) (.cells #[.int .i64 (k:Int)] 3)))
      have hy7:(w6.alloc (.cells #[.int .i64 (k:Int)] 3)).cell? ⟨w6.heap.size,0,none⟩ = some (zI k):=(Whole.made w6 3 #[.int .i64 (k:Int)]).at_ 0
      refine hK _ _ (fun _=>⟨(HB7.out.m_.at_ 3).trans rfl,cell_grown hS0.2.1 (World.grownBy_alloc _ _ none) (by simp),(HB7.out.b_.at_ j).trans (rowsA_at R its.length j hjn)⟩) ?_
      clear hK K HB6
      refine wpAnyK_ready (rs:=[20]) (by kernel_rfl) (by simp) ?_
      refine AllReadyK.cons (o:=_) rfl (fun K hK=>?_) AllReadyK.nil
      rw [if_pos (by rfl)]
      refine wp_appendZ1 _ _ rfl B (R (.inl j)) (slotL its k (.inl j)) k w6.heap.size rfl rfl (HB7.out.r_.own (.inl j)) hy7 HB7.out.z_ (by omega) (fun v' w8 hown' hgr8 hat8=>?_)
      have HB9:=Hy (HB7.out.back hsl hown' hgr8 hat8)
      have hBl:∀ r,(R (.inl j)).ownBlock = some r → B ≤ r:=fun r hr=>((HB7.out.r_.own (.inl j)).lt r hr).1
      have hgB:=HB7.out.l_
      have hwm:m < w.heap.size + 0 ∨ True:=.inr trivial
      have hm8:w8.cell? ⟨m,3,none⟩ = some (.slice (some ⟨gb,0,none⟩) its.length its.length):=cell_grown ((HB7.out.m_.at_ 3).trans rfl) hgr8 (fun e=>by have:=hBl _ e.symm; simp at this; omega)
      have hb8:=HB7.out.b_.grown hgr8 (fun e=>by have:=hBl _ e.symm; omega)
      have hb8c:w8.cell? ⟨gb,j,none⟩ = some (R (.inl j)):=(hb8.at_ j).trans (rowsA_at R its.length j hjn)
      have hb8f:=hb8.thawed j
      obtain ⟨A8,n8,c8,hv8⟩:∃ A8 n8 c8,v' = .slice A8 n8 c8:=by
       obtain ⟨A8,c8,e,-,-⟩:=own_argZ hown'
       exact ⟨_,_,_,e⟩
      subst hv8
      have hS8:w8.cell? ⟨m,3,none⟩ = some (.slice (some ⟨gb,0,none⟩) its.length its.length) ∧ w8.cell? ⟨wr.heap.size,1,none⟩ = some (.int .i64 (y.back:Int)) ∧ w8.cell? ⟨gb,j,none⟩ = some (R (.inl j)):=⟨hm8,cell_grown (cell_grown hS0.2.1 (World.grownBy_alloc _ _ none) (by simp)) hgr8 (fun e=>by have:=(HLT.out _ _ e.symm).2; simp at this),hb8c⟩
      refine hK _ _ (fun _=>hS8) ?_
      clear hK K hS0
      refine wpAnyK_ready (rs:=[21]) (by kernel_rfl) (by simp) ?_
      refine AllReadyK.cons (o:=_) rfl (fun K hK=>?_) AllReadyK.nil
      rw [if_pos (by rfl)]
      go_simp
      refine hK _ _ (fun _=>hS8) ?_
      clear hK K
      refine wpAnyK_ready (rs:=[22]) (by kernel_rfl) (by simp) ?_
      refine AllReadyK.cons (o:=_) rfl (fun K hK=>?_) AllReadyK.nil
      rw [if_pos (by rfl)]
      go_simp
      refine hK _ _ (fun h=>by cases h) ?_
      clear hK K hS8 hm8 hb8 hb8c hb8f HB7 hgr8 hown'
      refine wpAnyK_done (by kernel_rfl) ?_ _
      try simp only [Act.put]
      try go_simp
      go_wp2_with fail
      go_roundg (its.length - (k + 1))
      case measure=>omega
      case rel=>exact ⟨k + 1,_,N,by omega,Nat.le_refl _,by go_num,HB9⟩
     ·have hbf:(decide (1 ≤ y.back) && decide (y.back ≤ k)) = false:=by
       rw [Bool.and_eq_false_iff,decide_eq_false_iff_not,decide_eq_false_iff_not]
       omega
      rw [hbf] at HPB
      have hs9:=HS0.out (fun h=>hbk h.2) (by omega)
      go_wp2_with (go_at_call 103; refine (HPB.out _).mono ?_; rintro e w' ⟨rfl,rfl⟩)
      go_roundg (its.length - (k + 1))
      case measure=>omega
      case rel=>exact ⟨k + 1,R,N,by omega,Nat.le_refl _,by go_num,Hy (HB3.out.skip hs9)⟩
    ·have k6:((y.kind:Int) == 6) = false:=by simp; omega
     by_cases h7:y.kind = 7
     ·rw [h7] at e0 k6
      have hsl:=HSN.out h7
      have hLl:=slotL_len its k (.inr y.base)
      go_upto_region 8 with fail
      try simp only [Act.put]
      refine wp_region_K (fun W=>W.cell? ⟨m,4,none⟩ = some (.map (some mb)) ∧ W.rangeAt wr.heap.size 2 (encN y.base)) 12 (by kernel_rfl) ?_
      change wpAnyK _ _ _ _ _ _ _ _ _ (World.drew w3)
      have HB6:=Hy (HB3.out.later (Below.refl w3.heap.size w3).drew)
      have hS0:(World.drew w3).cell? ⟨m,4,none⟩ = some (.map (some mb)) ∧ (World.drew w3).rangeAt wr.heap.size 2 (encN y.base):=⟨(HB3.out.m_.at_ 4).trans rfl,itm_base HW3.out⟩
      have hw6:wr.heap.size < (World.drew w3).heap.size:=hw3
      clear HB3 e0 e1 HW3
      generalize World.drew w3 = w6 at *
      refine wpAnyK_take0 (i:=0) (oi:=⟨some 59,_,_,_,_,none⟩) (v:=.pointer (some ⟨m,0,none⟩)) rfl (by kernel_rfl) (fun _ _ _ h=>h) (Or.inl ⟨by rfl,fun W hW=>?_⟩) (fun _=>hS0) ?_
      ·go_simp
      refine wpAnyK_take0 (i:=1) (oi:=⟨some 60,_,_,_,_,none⟩) (v:=.pointer (some ⟨m,0,none⟩)) rfl (by kernel_rfl) (fun _ _ _ h=>h) (Or.inl ⟨by rfl,fun W hW=>?_⟩) (fun _=>hS0) ?_
      ·go_simp
      refine wpAnyK_take0 (i:=2) (oi:=⟨some 61,_,_,_,_,none⟩) (v:=.pointer (some ⟨m,4,none⟩)) rfl (by kernel_rfl) (fun _ _ _ h=>h) (Or.inl ⟨by rfl,fun W hW=>?_⟩) (fun _=>hS0) ?_
      ·go_simp
      refine wpAnyK_take (i:=3) (oi:=⟨some 62,_,_,_,_,none⟩) (v:=.map (some mb)) rfl (by kernel_rfl) (fun _ _ _ h=>h) (Or.inl ⟨by rfl,fun W hW=>?_⟩) hS0 ?_
      ·obtain ⟨s0,s1⟩:=hW
       go_simp
      refine wpAnyK_take0 (i:=4) (oi:=⟨some 63,_,_,_,_,none⟩) (v:=.pointer (some ⟨wr.heap.size,2,none⟩)) rfl (by kernel_rfl) (fun _ _ _ h=>h) (Or.inl ⟨by rfl,fun W hW=>?_⟩) (fun _=>hS0) ?_
      ·go_simp
      try simp only [Act.put]
      try go_simp
      refine wpAnyK_take (i:=5) (oi:=_) (v:=.agg (encN y.base).toArray) rfl (by kernel_rfl) (fun _ _ _ h=>h) (yieldsIf_load_mid (by rfl) _ _ rfl wr.heap.size (2) rfl (encN y.base) _ (fun W hW=>hW.2) Tryz.underlying30 rfl (infoN_l _)) hS0 ?_
      try simp only [Act.put]
      try go_simp
      refine wpAnyK_take0 (i:=6) (oi:=⟨some 66,_,_,_,_,none⟩) (v:=.int .i64 (k:Int)) rfl (by kernel_rfl) (fun _ _ _ h=>h) (Or.inl ⟨by rfl,fun W hW=>?_⟩) (fun _=>hS0) ?_
      ·go_simp
      try simp only [Act.put]
      try go_simp
      refine wpAnyK_ready (rs:=[7]) (by kernel_rfl) (by simp) ?_
      refine AllReadyK.cons (o:=_) rfl (fun K hK=>?_) AllReadyK.nil
      rw [if_pos (by rfl)]
      go_simp
      have HB7:=Hy (HB6.out.later ((Below.refl w6.heap.size w6).alloc (Nat.le_refl _) (.cells #[.int .i64 (k:Int)] 3)))
      have hy7:(w6.alloc (.cells #[.int .i64 (k:Int)] 3)).cell? ⟨w6.heap.size,0,none⟩ = some (zI k):=(Whole.made w6 3 #[.int .i64 (k:Int)]).at_ 0
      have hz7:(w6.alloc (.cells #[.int .i64 (k:Int)] 3)).heap.size = w6.heap.size + 1:=by simp
      have hS7:(w6.alloc (.cells #[.int .i64 (k:Int)] 3)).cell? ⟨m,4,none⟩ = some (.map (some mb)) ∧ (w6.alloc (.cells #[.int .i64 (k:Int)] 3)).rangeAt wr.heap.size 2 (encN y.base):=⟨(HB7.out.m_.at_ 4).trans rfl,fun j v hv=>cell_grown (hS0.2 j v hv) (World.grownBy_alloc _ _ none) (by simp)⟩
      refine hK _ _ (fun _=>hS7) ?_
      clear hK K HB6 hS0
      generalize w6.alloc (.cells #[.int .i64 (k:Int)] 3) = w7 at *
      refine wpAnyK_ready (rs:=[8]) (by kernel_rfl) (by simp) ?_
      refine AllReadyK.cons (o:=_) rfl (fun K hK=>?_) AllReadyK.nil
      rw [if_pos (by rfl)]
      refine wp_entryN _ _ rfl mb N (fun x=>R (.inr x)) y.base rfl rfl HB7.out.p_ (by unfold maxLen; omega) (fun st w8 hgm hsm hst=>?_)
      have hgb:=HGB.out
      have hS8:w8.cell? ⟨m,4,none⟩ = some (.map (some mb)) ∧ w8.rangeAt wr.heap.size 2 (encN y.base):=⟨cell_grown hS7.1 hgm (by simpa using HB7.out.d_.2.1),fun j v hv=>cell_grown (hS7.2 j v hv) hgm (fun e=>by have:=hgb; injection e with e; simp at e; omega)⟩
      have hy8:w8.cell? ⟨w6.heap.size,0,none⟩ = some (zI k):=cell_grown hy7 hgm (fun e=>by have:=HB7.out.h_; have:=HB7.out.l_; injection e with e; dsimp only at e; omega)
      have hr8:=HB7.out.r_.low hgm (fun r hr=>by injection hr with hr; omega)
      have hz8:B ≤ w8.heap.size:=by have:=HB7.out.z_; omega
      refine hK _ _ (fun _=>hS8) ?_
      clear hK K hS7 hy7
      refine wpAnyK_take0 (i:=9) (oi:=⟨some 65,_,_,_,_,none⟩) (v:=R (.inr y.base)) rfl (by kernel_rfl) (fun _ _ _ h=>h) (Or.inl ⟨by rfl,fun W hW=>?_⟩) (fun _=>hS8) ?_
      ·go_simp
      refine wpAnyK_take0 (i:=11) (oi:=⟨some 70,_,_,_,_,none⟩) (v:=st) rfl (by kernel_rfl) (fun _ _ _ h=>h) (Or.inl ⟨by rfl,fun W hW=>?_⟩) (fun _=>hS8) ?_
      ·go_simp
      try simp only [Act.put]
      try go_simp
      refine wpAnyK_ready (rs:=[10]) (by kernel_rfl) (by simp) ?_
      refine AllReadyK.cons (o:=_) rfl (fun K hK=>?_) AllReadyK.nil
      rw [if_pos (by rfl)]
      refine wp_appendZ1 _ _ rfl B (R (.inr y.base)) (slotL its k (.inr y.base)) k w6.heap.size rfl rfl (hr8.own (.inr y.base)) hy8 hz8 (by omega) (fun v' w9 hown' hgr9 hat9=>?_)
      have hne9:∀ x,x < B → some x ≠ (R (.inr y.base)).ownBlock:=fun x hx e=>by have:=(HLT.out _ _ e.symm).1; omega
      obtain ⟨w10,hr10,hg10,hs10,hm10⟩:=hst w9 v' (hgr9.block mb (by omega) (hne9 _ hgb.2.2.2))
      have HB10:=Hy (HB7.out.name hsl hgm hsm hown' hgr9 hat9 hg10 hm10)
      have hS9:w9.cell? ⟨m,4,none⟩ = some (.map (some mb)) ∧ w9.rangeAt wr.heap.size 2 (encN y.base):=⟨cell_grown hS8.1 hgr9 (hne9 _ hgb.1),fun j v hv=>cell_grown (hS8.2 j v hv) hgr9 (fun e=>by have:=(HLT.out _ _ e.symm).2; simp at this)⟩
      refine hK _ _ (fun _=>hS9) ?_
      clear hK K hS8 hy8
      refine wpAnyK_ready (rs:=[12]) (by kernel_rfl) (by simp) ?_
      refine AllReadyK.cons (o:=_) rfl (fun K hK=>?_) AllReadyK.nil
      rw [if_pos (by rfl)]
      refine wp_entryStore _ _ _ rfl mb st v' rfl rfl rfl hr10 ?_
      refine hK _ _ (fun h=>by cases h) ?_
      clear hK K hS9 hne9 hr8 HB7 hst
      refine wpAnyK_done (by kernel_rfl) ?_ _
      try simp only [Act.put]
      try go_simp
      go_wp2_with fail
      go_roundg (its.length - (k + 1))
      case measure=>omega
      case rel=>exact ⟨k + 1,_,N + 1,by omega,Nat.le_refl _,by go_num,HB10⟩
     ·have k7:((y.kind:Int) == 7) = false:=by simp; omega
      have hs9:=HS0.out (fun h=>h6 h.1) h7
      go_wp2_with fail
      go_roundg (its.length - (k + 1))
      case measure=>omega
      case rel=>exact ⟨k + 1,R,N,by omega,Nat.le_refl _,by go_num,Hy (HB3.out.skip hs9)⟩
   ·obtain rfl:k = its.length:=by omega
    go_wp2_with fail
    go_ret
    exact ⟨⟨m,go,gb,mb,A,c⟩,rfl,(fun F hF hFA=>hbm.out.done HA.out F hF hFA),hbm.out.w_,rfl,rfl,fun j hj=>by
     have:=hbm.out.h_
     rcases hj with (rfl | rfl | rfl) | rfl
     ·exact this.1
     ·exact this.2.1
     ·exact this.2.2.2
     ·exact this.2.2.1⟩
 ·refine wp_region_K (fun _=>True) 10 (by kernel_rfl) ?_
  change wpAnyK _ _ _ _ _ _ _ _ _ (World.drew w)
  have hsz:(World.drew w).heap.size = w.heap.size:=rfl
  have hbd:=(Below.refl w.heap.size w).drew
  generalize World.drew w = w0 at *
  have hS0:True:=trivial
  refine wpAnyK_take0 (i:=0) (oi:=⟨some 6,_,_,_,_,none⟩) (v:=.slice A n c) rfl (by kernel_rfl) (fun _ _ _ h=>by cases h.1) (Or.inl ⟨by rfl,fun W hW=>?_⟩) (fun _=>hS0) ?_
  ·go_simp
  refine wpAnyK_take0 (i:=1) (oi:=⟨some 7,_,_,_,_,none⟩) (v:=.slice A n c) rfl (by kernel_rfl) (fun _ _ _ h=>by cases h.1) (Or.inl ⟨by rfl,fun W hW=>?_⟩) (fun _=>hS0) ?_
  ·go_simp
  refine wpAnyK_take0 (i:=2) (oi:=⟨some 8,_,_,_,_,none⟩) (v:=.int .i64 (n:Int)) rfl (by kernel_rfl) (fun _ _ _ h=>by cases h.1) (Or.inl ⟨by rfl,fun W hW=>?_⟩) (fun _=>hS0) ?_
  ·go_simp
  refine wpAnyK_take0 (i:=4) (oi:=⟨some 10,_,_,_,_,none⟩) (v:=.slice A n c) rfl (by kernel_rfl) (fun _ _ _ h=>by cases h.1) (Or.inl ⟨by rfl,fun W hW=>?_⟩) (fun _=>hS0) ?_
  ·go_simp
  refine wpAnyK_take0 (i:=5) (oi:=⟨some 11,_,_,_,_,none⟩) (v:=.int .i64 (n:Int)) rfl (by kernel_rfl) (fun _ _ _ h=>by cases h.1) (Or.inl ⟨by rfl,fun W hW=>?_⟩) (fun _=>hS0) ?_
  ·go_simp
  refine wpAnyK_ready (rs:=[3,6,7]) (by kernel_rfl) (by simp) ?_
  refine AllReadyK.cons (o:=_) rfl (fun K hK=>?_) (AllReadyK.cons (o:=_) rfl (fun K hK=>?_) (AllReadyK.cons (o:=_) rfl (fun K hK=>?_) AllReadyK.nil))
  ·rw [if_pos (by rfl)]
   go_simp
   refine hK _ _ (fun _=>trivial) ?_
   clear hK K
   refine wpAnyK_ready (rs:=[6,7]) (by kernel_rfl) (by simp) ?_
   refine AllReadyK.cons (o:=_) rfl (fun K hK=>?_) (AllReadyK.cons (o:=_) rfl (fun K hK=>?_) AllReadyK.nil)
   ·rw [if_pos (by rfl)]
    go_simp
    refine hK _ _ (fun _=>trivial) ?_
    clear hK K
    refine wpAnyK_ready (rs:=[7]) (by kernel_rfl) (by simp) ?_
    refine AllReadyK.cons (o:=_) rfl (fun K hK=>?_) AllReadyK.nil
    ·rw [if_pos (by rfl)]
     go_simp
     refine hK _ _ (fun _=>trivial) ?_
     clear hK K
     refine wpAnyK_ready (rs:=[8]) (by kernel_rfl) (by simp) ?_
     refine AllReadyK.cons (o:=_) rfl (fun K hK=>?_) AllReadyK.nil
     rw [if_pos (by rfl)]
     go_simp
     refine hK _ _ (fun _=>trivial) ?_
     clear hK K
     refine wpAnyK_ready (rs:=[9]) (by kernel_rfl) (by simp) ?_
     refine AllReadyK.cons (o:=_) rfl (fun K hK=>?_) AllReadyK.nil
     rw [if_pos (by rfl)]
     go_simp
     refine hK _ _ (fun _=>trivial) ?_
     clear hK K
     refine wpAnyK_ready (rs:=[10]) (by kernel_rfl) (by simp) ?_
     refine AllReadyK.cons (o:=_) rfl (fun K hK=>?_) AllReadyK.nil
     rw [if_pos (by rfl)]
     go_simp
     refine hK _ _ (fun h=>by cases h) ?_
     clear hK K
     refine wpAnyK_done (by kernel_rfl) ?_ _
     try simp only
     try go_simp
     have hz1:(w0.alloc (.cells ((List.replicate n (default:Obx)).flatMap encX).toArray 49)).heap.size = w.heap.size + 1:=by simp [hsz]
     have hz2:((w0.alloc (.cells ((List.replicate n (default:Obx)).flatMap encX).toArray 49)).alloc (.cells (Array.replicate n (Value.slice none 0 0)) 59)).heap.size = w.heap.size + 2:=by simp [hsz]
     have hz3:(((w0.alloc (.cells ((List.replicate n (default:Obx)).flatMap encX).toArray 49)).alloc (.cells (Array.replicate n (Value.slice none 0 0)) 59)).alloc (.map #[] 0)).heap.size = w.heap.size + 3:=by simp [hsz]
     exact ⟨w.heap.size + 3,w.heap.size,w.heap.size + 1,w.heap.size + 2,rfl,⟨whole_at hz3,(((whole_at hsz).past _).past _).past _,((whole_at hz1).past _).past _,(own_at hz2).past _,((((hbd).alloc (by omega) _).alloc (by omega) _).alloc (by omega) _).alloc (by omega) _,by omega,by omega⟩⟩
   ·rw [if_pos (by rfl)]
    go_simp
    refine hK _ _ (fun _=>trivial) ?_
    clear hK K
    refine wpAnyK_ready (rs:=[6]) (by kernel_rfl) (by simp) ?_
    refine AllReadyK.cons (o:=_) rfl (fun K hK=>?_) AllReadyK.nil
    ·rw [if_pos (by rfl)]
     go_simp
     refine hK _ _ (fun _=>trivial) ?_
     clear hK K
     refine wpAnyK_ready (rs:=[8]) (by kernel_rfl) (by simp) ?_
     refine AllReadyK.cons (o:=_) rfl (fun K hK=>?_) AllReadyK.nil
     rw [if_pos (by rfl)]
     go_simp
     refine hK _ _ (fun _=>trivial) ?_
     clear hK K
     refine wpAnyK_ready (rs:=[9]) (by kernel_rfl) (by simp) ?_
     refine AllReadyK.cons (o:=_) rfl (fun K hK=>?_) AllReadyK.nil
     rw [if_pos (by rfl)]
     go_simp
     refine hK _ _ (fun _=>trivial) ?_
     clear hK K
     refine wpAnyK_ready (rs:=[10]) (by kernel_rfl) (by simp) ?_
     refine AllReadyK.cons (o:=_) rfl (fun K hK=>?_) AllReadyK.nil
     rw [if_pos (by rfl)]
     go_simp
     refine hK _ _ (fun h=>by cases h) ?_
     clear hK K
     refine wpAnyK_done (by kernel_rfl) ?_ _
     try simp only
     try go_simp
     have hz1:(w0.alloc (.cells ((List.replicate n (default:Obx)).flatMap encX).toArray 49)).heap.size = w.heap.size + 1:=by simp [hsz]
     have hz2:((w0.alloc (.cells ((List.replicate n (default:Obx)).flatMap encX).toArray 49)).alloc (.map #[] 0)).heap.size = w.heap.size + 2:=by simp [hsz]
     have hz3:(((w0.alloc (.cells ((List.replicate n (default:Obx)).flatMap encX).toArray 49)).alloc (.map #[] 0)).alloc (.cells (Array.replicate n (Value.slice none 0 0)) 59)).heap.size = w.heap.size + 3:=by simp [hsz]
     exact ⟨w.heap.size + 3,w.heap.size,w.heap.size + 2,w.heap.size + 1,rfl,⟨whole_at hz3,(((whole_at hsz).past _).past _).past _,(whole_at hz2).past _,((own_at hz1).past _).past _,((((hbd).alloc (by omega) _).alloc (by omega) _).alloc (by omega) _).alloc (by omega) _,by omega,by omega⟩⟩
  ·rw [if_pos (by rfl)]
   go_simp
   refine hK _ _ (fun _=>trivial) ?_
   clear hK K
   refine wpAnyK_ready (rs:=[3,7]) (by kernel_rfl) (by simp) ?_
   refine AllReadyK.cons (o:=_) rfl (fun K hK=>?_) (AllReadyK.cons (o:=_) rfl (fun K hK=>?_) AllReadyK.nil)
   ·rw [if_pos (by rfl)]
    go_simp
    refine hK _ _ (fun _=>trivial) ?_
    clear hK K
    refine wpAnyK_ready (rs:=[7]) (by kernel_rfl) (by simp) ?_
    refine AllReadyK.cons (o:=_) rfl (fun K hK=>?_) AllReadyK.nil
    ·rw [if_pos (by rfl)]
     go_simp
     refine hK _ _ (fun _=>trivial) ?_
     clear hK K
     refine wpAnyK_ready (rs:=[8]) (by kernel_rfl) (by simp) ?_
     refine AllReadyK.cons (o:=_) rfl (fun K hK=>?_) AllReadyK.nil
     rw [if_pos (by rfl)]
     go_simp
     refine hK _ _ (fun _=>trivial) ?_
     clear hK K
     refine wpAnyK_ready (rs:=[9]) (by kernel_rfl) (by simp) ?_
     refine AllReadyK.cons (o:=_) rfl (fun K hK=>?_) AllReadyK.nil
     rw [if_pos (by rfl)]
     go_simp
     refine hK _ _ (fun _=>trivial) ?_
     clear hK K
     refine wpAnyK_ready (rs:=[10]) (by kernel_rfl) (by simp) ?_
     refine AllReadyK.cons (o:=_) rfl (fun K hK=>?_) AllReadyK.nil
     rw [if_pos (by rfl)]
     go_simp
     refine hK _ _ (fun h=>by cases h) ?_
     clear hK K
     refine wpAnyK_done (by kernel_rfl) ?_ _
     try simp only
     try go_simp
     have hz1:(w0.alloc (.cells (Array.replicate n (Value.slice none 0 0)) 59)).heap.size = w.heap.size + 1:=by simp [hsz]
     have hz2:((w0.alloc (.cells (Array.replicate n (Value.slice none 0 0)) 59)).alloc (.cells ((List.replicate n (default:Obx)).flatMap encX).toArray 49)).heap.size = w.heap.size + 2:=by simp [hsz]
     have hz3:(((w0.alloc (.cells (Array.replicate n (Value.slice none 0 0)) 59)).alloc (.cells ((List.replicate n (default:Obx)).flatMap encX).toArray 49)).alloc (.map #[] 0)).heap.size = w.heap.size + 3:=by simp [hsz]
     exact ⟨w.heap.size + 3,w.heap.size + 1,w.heap.size,w.heap.size + 2,rfl,⟨whole_at hz3,((whole_at hz1).past _).past _,(((whole_at hsz).past _).past _).past _,(own_at hz2).past _,((((hbd).alloc (by omega) _).alloc (by omega) _).alloc (by omega) _).alloc (by omega) _,by omega,by omega⟩⟩
   ·rw [if_pos (by rfl)]
    go_simp
    refine hK _ _ (fun _=>trivial) ?_
    clear hK K
    refine wpAnyK_ready (rs:=[3]) (by kernel_rfl) (by simp) ?_
    refine AllReadyK.cons (o:=_) rfl (fun K hK=>?_) AllReadyK.nil
    ·rw [if_pos (by rfl)]
     go_simp
     refine hK _ _ (fun _=>trivial) ?_
     clear hK K
     refine wpAnyK_ready (rs:=[8]) (by kernel_rfl) (by simp) ?_
     refine AllReadyK.cons (o:=_) rfl (fun K hK=>?_) AllReadyK.nil
     rw [if_pos (by rfl)]
     go_simp
     refine hK _ _ (fun _=>trivial) ?_
     clear hK K
     refine wpAnyK_ready (rs:=[9]) (by kernel_rfl) (by simp) ?_
     refine AllReadyK.cons (o:=_) rfl (fun K hK=>?_) AllReadyK.nil
     rw [if_pos (by rfl)]
     go_simp
     refine hK _ _ (fun _=>trivial) ?_
     clear hK K
     refine wpAnyK_ready (rs:=[10]) (by kernel_rfl) (by simp) ?_
     refine AllReadyK.cons (o:=_) rfl (fun K hK=>?_) AllReadyK.nil
     rw [if_pos (by rfl)]
     go_simp
     refine hK _ _ (fun h=>by cases h) ?_
     clear hK K
     refine wpAnyK_done (by kernel_rfl) ?_ _
     try simp only
     try go_simp
     have hz1:(w0.alloc (.cells (Array.replicate n (Value.slice none 0 0)) 59)).heap.size = w.heap.size + 1:=by simp [hsz]
     have hz2:((w0.alloc (.cells (Array.replicate n (Value.slice none 0 0)) 59)).alloc (.map #[] 0)).heap.size = w.heap.size + 2:=by simp [hsz]
     have hz3:(((w0.alloc (.cells (Array.replicate n (Value.slice none 0 0)) 59)).alloc (.map #[] 0)).alloc (.cells ((List.replicate n (default:Obx)).flatMap encX).toArray 49)).heap.size = w.heap.size + 3:=by simp [hsz]
     exact ⟨w.heap.size + 3,w.heap.size + 2,w.heap.size,w.heap.size + 1,rfl,⟨whole_at hz3,(whole_at hz2).past _,(((whole_at hsz).past _).past _).past _,((own_at hz1).past _).past _,((((hbd).alloc (by omega) _).alloc (by omega) _).alloc (by omega) _).alloc (by omega) _,by omega,by omega⟩⟩
  ·rw [if_pos (by rfl)]
   go_simp
   refine hK _ _ (fun _=>trivial) ?_
   clear hK K
   refine wpAnyK_ready (rs:=[3,6]) (by kernel_rfl) (by simp) ?_
   refine AllReadyK.cons (o:=_) rfl (fun K hK=>?_) (AllReadyK.cons (o:=_) rfl (fun K hK=>?_) AllReadyK.nil)
   ·rw [if_pos (by rfl)]
    go_simp
    refine hK _ _ (fun _=>trivial) ?_
    clear hK K
    refine wpAnyK_ready (rs:=[6]) (by kernel_rfl) (by simp) ?_
    refine AllReadyK.cons (o:=_) rfl (fun K hK=>?_) AllReadyK.nil
    ·rw [if_pos (by rfl)]
     go_simp
     refine hK _ _ (fun _=>trivial) ?_
     clear hK K
     refine wpAnyK_ready (rs:=[8]) (by kernel_rfl) (by simp) ?_
     refine AllReadyK.cons (o:=_) rfl (fun K hK=>?_) AllReadyK.nil
     rw [if_pos (by rfl)]
     go_simp
     refine hK _ _ (fun _=>trivial) ?_
     clear hK K
     refine wpAnyK_ready (rs:=[9]) (by kernel_rfl) (by simp) ?_
     refine AllReadyK.cons (o:=_) rfl (fun K hK=>?_) AllReadyK.nil
     rw [if_pos (by rfl)]
     go_simp
     refine hK _ _ (fun _=>trivial) ?_
     clear hK K
     refine wpAnyK_ready (rs:=[10]) (by kernel_rfl) (by simp) ?_
     refine AllReadyK.cons (o:=_) rfl (fun K hK=>?_) AllReadyK.nil
     rw [if_pos (by rfl)]
     go_simp
     refine hK _ _ (fun h=>by cases h) ?_
     clear hK K
     refine wpAnyK_done (by kernel_rfl) ?_ _
     try simp only
     try go_simp
     have hz1:(w0.alloc (.map #[] 0)).heap.size = w.heap.size + 1:=by simp [hsz]
     have hz2:((w0.alloc (.map #[] 0)).alloc (.cells ((List.replicate n (default:Obx)).flatMap encX).toArray 49)).heap.size = w.heap.size + 2:=by simp [hsz]
     have hz3:(((w0.alloc (.map #[] 0)).alloc (.cells ((List.replicate n (default:Obx)).flatMap encX).toArray 49)).alloc (.cells (Array.replicate n (Value.slice none 0 0)) 59)).heap.size = w.heap.size + 3:=by simp [hsz]
     exact ⟨w.heap.size + 3,w.heap.size + 1,w.heap.size + 2,w.heap.size,rfl,⟨whole_at hz3,((whole_at hz1).past _).past _,(whole_at hz2).past _,(((own_at hsz).past _).past _).past _,((((hbd).alloc (by omega) _).alloc (by omega) _).alloc (by omega) _).alloc (by omega) _,by omega,by omega⟩⟩
   ·rw [if_pos (by rfl)]
    go_simp
    refine hK _ _ (fun _=>trivial) ?_
    clear hK K
    refine wpAnyK_ready (rs:=[3]) (by kernel_rfl) (by simp) ?_
    refine AllReadyK.cons (o:=_) rfl (fun K hK=>?_) AllReadyK.nil
    ·rw [if_pos (by rfl)]
     go_simp
     refine hK _ _ (fun _=>trivial) ?_
     clear hK K
     refine wpAnyK_ready (rs:=[8]) (by kernel_rfl) (by simp) ?_
     refine AllReadyK.cons (o:=_) rfl (fun K hK=>?_) AllReadyK.nil
     rw [if_pos (by rfl)]
     go_simp
     refine hK _ _ (fun _=>trivial) ?_
     clear hK K
     refine wpAnyK_ready (rs:=[9]) (by kernel_rfl) (by simp) ?_
     refine AllReadyK.cons (o:=_) rfl (fun K hK=>?_) AllReadyK.nil
     rw [if_pos (by rfl)]
     go_simp
     refine hK _ _ (fun _=>trivial) ?_
     clear hK K
     refine wpAnyK_ready (rs:=[10]) (by kernel_rfl) (by simp) ?_
     refine AllReadyK.cons (o:=_) rfl (fun K hK=>?_) AllReadyK.nil
     rw [if_pos (by rfl)]
     go_simp
     refine hK _ _ (fun h=>by cases h) ?_
     clear hK K
     refine wpAnyK_done (by kernel_rfl) ?_ _
     try simp only
     try go_simp
     have hz1:(w0.alloc (.map #[] 0)).heap.size = w.heap.size + 1:=by simp [hsz]
     have hz2:((w0.alloc (.map #[] 0)).alloc (.cells (Array.replicate n (Value.slice none 0 0)) 59)).heap.size = w.heap.size + 2:=by simp [hsz]
     have hz3:(((w0.alloc (.map #[] 0)).alloc (.cells (Array.replicate n (Value.slice none 0 0)) 59)).alloc (.cells ((List.replicate n (default:Obx)).flatMap encX).toArray 49)).heap.size = w.heap.size + 3:=by simp [hsz]
     exact ⟨w.heap.size + 3,w.heap.size + 2,w.heap.size + 1,w.heap.size,rfl,⟨whole_at hz3,(whole_at hz2).past _,((whole_at hz1).past _).past _,(((own_at hsz).past _).past _).past _,((((hbd).alloc (by omega) _).alloc (by omega) _).alloc (by omega) _).alloc (by omega) _,by omega,by omega⟩⟩
end Go.Proofs.YtlfmooihcigolaaGreatDoor
