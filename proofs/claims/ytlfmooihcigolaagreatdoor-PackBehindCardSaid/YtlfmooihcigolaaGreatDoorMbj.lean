/-
  BodE.
-/
import Derived.Test.YtlfmooihcigolaaGreatDoorMbg
import Derived.Test.YtlfmooihcigolaaGreatDoorMbi
set_option maxRecDepth 100000
set_option maxHeartbeats 8000000
namespace Go.Proofs.YtlfmooihcigolaaGreatDoor
open Go.RowKit
theorem Mng.item_at {F:Nat → Prop} {w:World} {its:List It} {p:Mng} {mk:Mk} (h:MkM F w its p mk) {i:Nat} (hi:i < its.length):∃ bb o,p.Ai = some ⟨bb,o,none⟩ ∧ w.rangeAt bb (o + i * 35) (encI (its.getD i default)):=by
 obtain ⟨bb,o,e,hr⟩:=h.items.2.2.2 (by omega)
 exact ⟨bb,o,e,hr i hi⟩
theorem ptake_any (F:Nat → Prop) (its:List It) (ds:Nat → Dlt) (p:Mng) (mk:Mk) (s:Stp) (w:World) (hM:MkM F w its p mk) (hF:∀ k,F k → k < w.heap.size) (hmade:mk.made ≤ 1000000) (hp:s.place < its.length) (hb:s.base.length ≤ 1000000) (hd:∀ i,i < its.length → ¬ wholeK (its.getD i default).kind → okD (its.getD i default) (ds i)) (hwb:∀ i,i < its.length → (its.getD i default).body.length ≤ 100000) :
  Calls Tryz.prog 163 #[.pointer (some ⟨p.m,0,none⟩),.agg (encS s).toArray] w fun e w'=>e = .returned (.tuple #[.string ⟨(takeV its ds s).1.toArray⟩,.int .i64 (takeV its ds s).2]) ∧ Alt p.R w w' ∧ ((takeV its ds s).2 = 0 → MkM F w' its p ⟨mk.objs.set s.place (getOb s.kind (takeV its ds s).1).1,mk.made + 1,mk.dead⟩):=by
 obtain ⟨hW,hB⟩:=sbox s w
 have HM1:=Hy (hM.later hB)
 have HW:=Hy hW
 have HB:=Hy hB
 have hs1:(w.alloc (.cells (encS s).toArray 180)).heap.size = w.heap.size + 1:=by simp
 obtain ⟨bb,o,hAi,hry⟩:=Mng.item_at HM1.out hp
 have HSI:=Hy (infoSt_s s)
 have hMm:=hM.cells.lt
 clear hW hB hM
 generalize hcs:(encS s).toArray = cs at *
 have K0:Hid (cs[0]? = some (.int .i64 (s.place:Int))):=by show _ = _; rw [← hcs]; rfl
 have K1:Hid (cs[1]? = some (.int .i64 s.kind)):=by show _ = _; rw [← hcs]; rfl
 have K2:Hid (cs[2]? = some (.string ⟨s.base.toArray⟩)):=by show _ = _; rw [← hcs]; rfl
 clear hcs
 obtain ⟨y,hy⟩:∃ y,y = its.getD s.place default:=⟨_,rfl⟩
 rw [← hy] at hry
 have HRY:=Hy hry
 have HY:=Hy hy
 clear hry hy
 have hlt':(s.place:Int) < (its.length:Int):=by omega
 go_enter Tryz.func163,Tryz.ntmps163
 go_upto_region 1 with fail
 generalize w.alloc (.cells cs 180) = w1 at *
 have HMd:Hid (MkM F w1.drew its p mk):=HM1.out.later (Below.refl _ _).drew
 have HWd:Hid (Whole w1.drew w.heap.size 180 cs):=HW.out
 have HBd:=Hy HB.out.drew
 have HRd:Hid (w1.drew.rangeAt bb (o + s.place * 35) (encI y)):=HRY.out
 clear HM1 HW HB HRY
 refine wp_region_K (fun W=>W.cell? ⟨p.m,0,none⟩ = some (.slice (some ⟨bb,o,none⟩) its.length p.ci) ∧ W.cell? ⟨w.heap.size,0,none⟩ = some (.int .i64 (s.place:Int)) ∧ W.rangeAt bb (o + s.place * 35) (encI y)) 9 (by kernel_rfl) ?_
 change wpAnyK _ _ _ _ _ _ _ _ _ (World.drew w1)
 have hs2:w1.drew.heap.size = w.heap.size + 1:=hs1
 generalize World.drew w1 = w2 at *
 have hS0:w2.cell? ⟨p.m,0,none⟩ = some (.slice (some ⟨bb,o,none⟩) its.length p.ci) ∧ w2.cell? ⟨w.heap.size,0,none⟩ = some (.int .i64 (s.place:Int)) ∧ w2.rangeAt bb (o + s.place * 35) (encI y):=⟨(HMd.out.cells.at_ 0).trans (by rw [← hAi]; rfl),(HWd.out.at_ 0).trans K0.out,HRd.out⟩
 refine wpAnyK_take0 (i:=0) (oi:=⟨some 9,_,_,_,_,none⟩) (v:=.pointer (some ⟨p.m,0,none⟩)) rfl (by kernel_rfl) (fun _ _ _ h=>h) (Or.inl ⟨by rfl,fun W hW=>?_⟩) (fun _=>hS0) ?_
 ·go_simp
 refine wpAnyK_take0 (i:=1) (oi:=⟨some 10,_,_,_,_,none⟩) (v:=.pointer (some ⟨p.m,0,none⟩)) rfl (by kernel_rfl) (fun _ _ _ h=>h) (Or.inl ⟨by rfl,fun W hW=>?_⟩) (fun _=>hS0) ?_
 ·go_simp
 refine wpAnyK_take0 (i:=2) (oi:=⟨some 11,_,_,_,_,none⟩) (v:=.pointer (some ⟨p.m,0,none⟩)) rfl (by kernel_rfl) (fun _ _ _ h=>h) (Or.inl ⟨by rfl,fun W hW=>?_⟩) (fun _=>hS0) ?_
 ·go_simp
 refine wpAnyK_take (i:=3) (oi:=⟨some 12,_,_,_,_,none⟩) (v:=.slice (some ⟨bb,o,none⟩) its.length p.ci) rfl (by kernel_rfl) (fun _ _ _ h=>h) (Or.inl ⟨by rfl,fun W hW=>?_⟩) hS0 ?_
 ·obtain ⟨s0,s1,s2⟩:=hW
  go_simp
 refine wpAnyK_take0 (i:=4) (oi:=⟨some 13,_,_,_,_,none⟩) (v:=.pointer (some ⟨w.heap.size,0,none⟩)) rfl (by kernel_rfl) (fun _ _ _ h=>h) (Or.inl ⟨by rfl,fun W hW=>?_⟩) (fun _=>hS0) ?_
 ·go_simp
 refine wpAnyK_take (i:=5) (oi:=⟨some 14,_,_,_,_,none⟩) (v:=.int .i64 (s.place:Int)) rfl (by kernel_rfl) (fun _ _ _ h=>h) (Or.inl ⟨by rfl,fun W hW=>?_⟩) hS0 ?_
 ·obtain ⟨s0,s1,s2⟩:=hW
  go_simp
 try simp only [Act.put]
 try go_simp
 refine wpAnyK_take0 (i:=6) (oi:=⟨some 15,_,_,_,_,none⟩) (v:=.pointer (some ⟨bb,o + s.place * 35,none⟩)) rfl (by kernel_rfl) (fun _ _ _ h=>h) (Or.inl ⟨by rfl,fun W hW=>?_⟩) (fun _=>hS0) ?_
 ·go_simp
 try simp only [Act.put]
 try go_simp
 refine wpAnyK_take (i:=7) (oi:=_) (v:=.agg (encI y).toArray) rfl (by kernel_rfl) (fun _ _ _ h=>h) (yieldsIf_load_mid (by rfl) _ _ rfl bb (o + s.place * 35) rfl (encI y) _ (fun W hW=>hW.2.2) Tryz.underlying34 rfl (infoI y)) hS0 ?_
 try simp only [Act.put]
 try go_simp
 refine wpAnyK_ready (rs:=[8]) (by kernel_rfl) (by simp) ?_
 refine AllReadyK.cons (o:=_) rfl (fun K hK=>?_) AllReadyK.nil
 rw [if_pos (by rfl)]
 go_simp
 rw [zI_lit]
 have HZ3:=Hy (Whole.made w2 34 (encI default).toArray)
 have HW3:=Hy (HWd.out.past (.cells (encI default).toArray 34))
 have hb3:=(Below.refl w2.heap.size w2).alloc (Nat.le_refl _) (.cells (encI default).toArray 34)
 have hR3:(w2.alloc (.cells (encI default).toArray 34)).rangeAt bb (o + s.place * 35) (encI y):=fun j v hv=>(cell_grown (hS0.2.2 j v hv) (grown_none hb3) (by simp))
 have hS3:(fun W:World=>W.cell? ⟨p.m,0,none⟩ = some (.slice (some ⟨bb,o,none⟩) its.length p.ci) ∧ W.cell? ⟨w.heap.size,0,none⟩ = some (.int .i64 (s.place:Int)) ∧ W.rangeAt bb (o + s.place * 35) (encI y)) (w2.alloc (.cells (encI default).toArray 34)):=⟨cell_grown hS0.1 (grown_none hb3) (by simp),cell_grown hS0.2.1 (grown_none hb3) (by simp),hR3⟩
 rw [hs2] at HZ3
 refine hK _ _ (fun _=>hS3) ?_
 clear hK K hS0 hR3
 have hg4:(w2.alloc (.cells (encI default).toArray 34)).grownBy ((w2.alloc (.cells (encI default).toArray 34)).setCells (w.heap.size + 1) 0 (encI y).toArray.toList) (some (w.heap.size + 1)):=gr_setCells (g:=w.heap.size + 1) _ 0 _ _ (gr_refl _ _)
 have hb4:Below w2.heap.size w2 ((w2.alloc (.cells (encI default).toArray 34)).setCells (w.heap.size + 1) 0 (encI y).toArray.toList):=made_below' (by rw [hs2]; exact hg4)
 have HM4:=Hy (HMd.out.later hb4)
 have HW4:=Hy (HW3.out.grown hg4 (fun e=>by injection e with e; omega))
 have HB4:=Hy (HBd.out.trans (hb4.mono (by omega)))
 have hth:(w2.alloc (.cells (encI default).toArray 34)).there (w.heap.size + 1) 0 (encI y).toArray.size:=by
  intro j hj
  rw [encI_size] at hj
  refine ⟨?_,HZ3.out.thawed _⟩
  rw [HZ3.out.at_,Array.getElem?_eq_getElem (by rw [encI_size]; omega)]
  rfl
 have HI4:Hid (Whole ((w2.alloc (.cells (encI default).toArray 34)).setCells (w.heap.size + 1) 0 (encI y).toArray.toList) (w.heap.size + 1) 34 (encI y).toArray):=by
  have h9:=whole_setCells (encI y).toArray.toList 0 _ _ HZ3.out (by have h1:=encI_len y; rw [encI_size]; simp; omega)
  rw [List.take_zero,List.nil_append] at h9
  exact h9
 clear hS3
 refine wpAnyK_ready (rs:=[9]) (by kernel_rfl) (by simp) ?_
 refine AllReadyK.cons (o:=_) rfl (fun K hK=>?_) AllReadyK.nil
 rw [if_pos (by rfl)]
 refine wp_store_mid 34 _ _ rfl (w.heap.size + 1) 0 (encI y).toArray rfl rfl hth (infoI_s y) (encI_all y) ?_
 refine hK _ _ (fun h=>by cases h) ?_
 clear hK K hth hg4 hb4 hb3
 generalize (w2.alloc (.cells (encI default).toArray 34)).setCells (w.heap.size + 1) 0 (encI y).toArray.toList = w4 at *
 refine wpAnyK_done (by kernel_rfl) ?_ _
 simp only [Act.put]
 go_simp
 clear HZ3 HW3 HMd HWd HBd HRd hs2 w2 hs1 w1
 have hb34:=itm_body HI4.out
 have hk0:=itm_kind HI4.out
 have HWH:=Hy fun W=>pwhole_any y.kind W
 by_cases hk:wholeK y.kind
 ·rw [decide_eq_true hk] at HWH
  have HTV:Hid (takeV its ds s = (y.body,(getOb s.kind y.body).2)):=by show _ = _; unfold takeV; rw [← HY.out,if_pos hk]
  have hbl:y.body.length ≤ 100000:=by have:=hwb s.place hp; rw [← HY.out] at this; exact this
  clear hk
  go_upto_region 7 with (go_at_call 102; refine (HWH.out _).mono ?_; rintro e w' ⟨rfl,rfl⟩)
  have HGET:=Hy fun W=>ogetP_any s.kind y.body W (by omega)
  have c1:w4.cell? ⟨p.m,1,none⟩ = some (.slice (some ⟨p.go,0,none⟩) its.length its.length):=(HM4.out.cells.at_ 1).trans rfl
  have HS:Hid (∀ W,MkM F W its p mk → Whole W w.heap.size 180 cs → (fun W:World=>W.cell? ⟨p.m,1,none⟩ = some (.slice (some ⟨p.go,0,none⟩) its.length its.length) ∧ W.cell? ⟨w.heap.size,0,none⟩ = some (.int .i64 (s.place:Int)) ∧ W.cell? ⟨w.heap.size,1,none⟩ = some (.int .i64 s.kind)) W):=fun W h k=>⟨(h.cells.at_ 1).trans rfl,(k.at_ 0).trans K0.out,(k.at_ 1).trans K1.out⟩
  refine wp_region_K (fun W=>W.cell? ⟨p.m,1,none⟩ = some (.slice (some ⟨p.go,0,none⟩) its.length its.length) ∧ W.cell? ⟨w.heap.size,0,none⟩ = some (.int .i64 (s.place:Int)) ∧ W.cell? ⟨w.heap.size,1,none⟩ = some (.int .i64 s.kind)) 14 (by kernel_rfl) ?_
  change wpAnyK _ _ _ _ _ _ _ _ _ (World.drew w4)
  have HM6:Hid (MkM F (World.drew w4) its p mk):=HM4.out.later (Below.refl _ _).drew
  have HW6:Hid (Whole (World.drew w4) w.heap.size 180 cs):=HW4.out
  have HB6:=Hy HB4.out.drew
  clear c1 HM4 HW4 HB4
  generalize World.drew w4 = w6 at *
  have hS0:=HS.out w6 HM6.out HW6.out
  refine wpAnyK_take0 (i:=0) (oi:=⟨some 35,_,_,_,_,none⟩) (v:=.pointer (some ⟨p.m,0,none⟩)) rfl (by kernel_rfl) (fun _ _ _ h=>h) (Or.inl ⟨by rfl,fun W hW=>?_⟩) (fun _=>hS0) ?_
  ·go_simp
  refine wpAnyK_take0 (i:=1) (oi:=⟨some 36,_,_,_,_,none⟩) (v:=.pointer (some ⟨p.m,0,none⟩)) rfl (by kernel_rfl) (fun _ _ _ h=>h) (Or.inl ⟨by rfl,fun W hW=>?_⟩) (fun _=>hS0) ?_
  ·go_simp
  refine wpAnyK_take0 (i:=2) (oi:=⟨some 37,_,_,_,_,none⟩) (v:=.pointer (some ⟨p.m,1,none⟩)) rfl (by kernel_rfl) (fun _ _ _ h=>h) (Or.inl ⟨by rfl,fun W hW=>?_⟩) (fun _=>hS0) ?_
  ·go_simp
  refine wpAnyK_take (i:=3) (oi:=⟨some 38,_,_,_,_,none⟩) (v:=.slice (some ⟨p.go,0,none⟩) its.length its.length) rfl (by kernel_rfl) (fun _ _ _ h=>h) (Or.inl ⟨by rfl,fun W hW=>?_⟩) hS0 ?_
  ·obtain ⟨s0,s1,s2⟩:=hW
   go_simp
  refine wpAnyK_take0 (i:=4) (oi:=⟨some 39,_,_,_,_,none⟩) (v:=.pointer (some ⟨w.heap.size,0,none⟩)) rfl (by kernel_rfl) (fun _ _ _ h=>h) (Or.inl ⟨by rfl,fun W hW=>?_⟩) (fun _=>hS0) ?_
  ·go_simp
  refine wpAnyK_take (i:=5) (oi:=⟨some 40,_,_,_,_,none⟩) (v:=.int .i64 (s.place:Int)) rfl (by kernel_rfl) (fun _ _ _ h=>h) (Or.inl ⟨by rfl,fun W hW=>?_⟩) hS0 ?_
  ·obtain ⟨s0,s1,s2⟩:=hW
   go_simp
  refine wpAnyK_take0 (i:=6) (oi:=⟨some 41,_,_,_,_,none⟩) (v:=.pointer (some ⟨w.heap.size,1,none⟩)) rfl (by kernel_rfl) (fun _ _ _ h=>h) (Or.inl ⟨by rfl,fun W hW=>?_⟩) (fun _=>hS0) ?_
  ·go_simp
  refine wpAnyK_take (i:=7) (oi:=⟨some 42,_,_,_,_,none⟩) (v:=.int .i64 s.kind) rfl (by kernel_rfl) (fun _ _ _ h=>h) (Or.inl ⟨by rfl,fun W hW=>?_⟩) hS0 ?_
  ·obtain ⟨s0,s1,s2⟩:=hW
   go_simp
  refine wpAnyK_take0 (i:=8) (oi:=⟨some 43,_,_,_,_,none⟩) (v:=.string ⟨(y.body).toArray⟩) rfl (by kernel_rfl) (fun _ _ _ h=>h) (Or.inl ⟨by rfl,fun W hW=>?_⟩) (fun _=>hS0) ?_
  ·go_simp
  try simp only [Act.put]
  try go_simp
  refine wpAnyK_ready (rs:=[9]) (by kernel_rfl) (by simp) ?_
  refine AllReadyK.cons (o:=_) rfl (fun K hK=>?_) AllReadyK.nil
  rw [if_pos (by rfl)]
  go_simp
  refine (HGET.out w6).mono ?_
  rintro e w7 ⟨⟨A,c,A2,c2,rfl,harg,ho1,ho2⟩,hb7⟩
  obtain ⟨q,hq⟩:∃ q:Obx,q = ⟨A,c,A2,c2,(getOb s.kind (y.body)).1⟩:=⟨_,rfl⟩
  have hqe:(encO A c A2 c2 (getOb s.kind (y.body)).1).toArray = (encX q).toArray:=by rw [hq]; rfl
  have HQX:Hid (q.x = (getOb s.kind (y.body)).1):=by show _ = _; rw [hq]
  have HHX:Hid (HasX w7 q):=by show HasX _ _; rw [hq]; exact harg
  have hm6:=HM6.out.cells.lt
  have hw6:=HB6.out.size
  have HOX:Hid (OffX F p q):=by
   show OffX _ _ _
   rw [hq]
   have h1:=HM6.out.cells.lt
   obtain ⟨xs,-,h2,-⟩:=HM6.out.objs
   have h2:=h2.lt
   obtain ⟨N,V,h3,-⟩:=HM6.out.names
   have h3:=h3.lt
   have hall:∀ j,w6.heap.size ≤ j → ¬ p.R j ∧ ¬ F j:=fun j hj=>by
    refine ⟨fun hR=>?_,fun hf=>?_⟩
    ·rcases hR with rfl | rfl | rfl <;> omega
    ·have:=hF j hf; omega
   exact ⟨fun j hj _=>hall j (ho1.1 j hj),fun j hj _=>hall j (ho2.1 j hj)⟩
  rw [hqe]
  have HM7:=Hy (HM6.out.later hb7)
  have HW7:=Hy (HW6.out.below hb7 HW6.out.lt)
  have HB7:=Hy (hTr HB6 hb7)
  have hS0:=HS.out w7 HM7.out HW7.out
  clear harg ho1 ho2 hb7 hq hqe HM6 HW6 HB6 HGET hm6
  refine hK _ _ (fun _=>hS0) ?_
  clear hK K
  refine wpAnyK_take0 (i:=10) (oi:=⟨some 34,_,_,_,_,none⟩) (v:=.tuple #[.agg (encX q).toArray,.int .i64 (getOb s.kind (y.body)).2]) rfl (by kernel_rfl) (fun _ _ _ h=>h) (Or.inl ⟨by rfl,fun W hW=>?_⟩) (fun _=>hS0) ?_
  ·go_simp
  refine wpAnyK_take0 (i:=11) (oi:=⟨some 45,_,_,_,_,none⟩) (v:=.agg (encX q).toArray) rfl (by kernel_rfl) (fun _ _ _ h=>h) (Or.inl ⟨by rfl,fun W hW=>?_⟩) (fun _=>hS0) ?_
  ·go_simp
  refine wpAnyK_take0 (i:=12) (oi:=⟨some 46,_,_,_,_,none⟩) (v:=.int .i64 (getOb s.kind (y.body)).2) rfl (by kernel_rfl) (fun _ _ _ h=>h) (Or.inl ⟨by rfl,fun W hW=>?_⟩) (fun _=>hS0) ?_
  ·go_simp
  try simp only [Act.put]
  try go_simp
  refine wpAnyK_take0 (i:=13) (oi:=⟨some 47,_,_,_,_,none⟩) (v:=.pointer (some ⟨p.go,s.place * 38,none⟩)) rfl (by kernel_rfl) (fun _ _ _ h=>h) (Or.inl ⟨by rfl,fun W hW=>?_⟩) (fun _=>hS0) ?_
  ·go_simp
  try simp only [Act.put]
  try go_simp
  have hth:w7.there p.go (s.place * 38) (encX q).toArray.size:=by
   obtain ⟨xs,hx1,hx2,-⟩:=HM7.out.objs
   have hxl:xs.length = its.length:=by rw [← HM7.out.olen,← hx1,List.length_map]
   intro j hj
   rw [encX_size] at hj
   refine ⟨?_,hx2.thawed _⟩
   rw [hx2.at_,Array.getElem?_eq_getElem (by rw [List.size_toArray,flatG_len encX_len,hxl]; omega)]
   rfl
  have hg8:=gr_setCells (g:=p.go) (encX q).toArray.toList (s.place * 38) w7 w7 (gr_refl _ _)
  have HM8:=Hy (HM7.out.setObj hp HHX.out HOX.out)
  have HA8:=Hy ((Alt.of_below (R:=p.R) HB7.out).grown hg8 (fun j hj=>by injection hj with hj; exact .inr (.inr (.inl hj.symm))))
  rw [HQX.out] at HM8
  refine wpAnyK_ready (rs:=[14]) (by kernel_rfl) (by simp) ?_
  refine AllReadyK.cons (o:=_) rfl (fun K hK=>?_) AllReadyK.nil
  rw [if_pos (by rfl)]
  refine wp_store_mid 49 _ _ rfl p.go (s.place * 38) (encX q).toArray rfl rfl hth (infoOx_s q) (encX_all q) ?_
  refine hK _ _ (fun h=>by cases h) ?_
  clear hK K hth hg8
  generalize w7.setCells p.go (s.place * 38) (encX q).toArray.toList = w8 at *
  refine wpAnyK_ready (rs:=[15]) (by kernel_rfl) (by simp) ?_
  refine AllReadyK.cons (o:=_) rfl (fun K hK=>?_) AllReadyK.nil
  rw [if_pos (by rfl)]
  go_simp
  refine hK _ _ (fun h=>by cases h) ?_
  clear hK K
  refine wpAnyK_done (by kernel_rfl) ?_ _
  try simp only [Act.put]
  try go_simp
  have c2:w8.cell? ⟨p.m,2,none⟩ = some (.int .i64 (mk.made:Int)):=(HM8.out.cells.at_ 2).trans rfl
  have f2:=HM8.out.cells.thawed 2
  have hmd:((mk.made + 1:Nat):Int) = (mk.made:Int) + 1:=by omega
  have HM9:Hid (MkM F (w8.setCell ⟨p.m,2,none⟩ (.int .i64 ((mk.made + 1:Nat):Int))) its p ⟨mk.objs.set s.place (getOb s.kind (y.body)).1,mk.made + 1,mk.dead⟩):=HM8.out.setMade (mk.made + 1)
  have HA9:=Hy (HA8.out.set (p:=⟨p.m,2,none⟩) (.inl (.inl rfl)) (.int .i64 ((mk.made + 1:Nat):Int)))
  rw [hmd] at HM9
  rw [hmd] at HA9
  clear HM7 HW7 HB7 HS hS0 hmd
  go_wp2
  go_ret2
  rw [HTV.out]
  exact ⟨rfl,HA9.out,fun _=>HM9.out⟩
 ·rw [decide_eq_false hk] at HWH
  obtain ⟨hd1,hd2,hd3,hd4⟩:=hd s.place hp (by rw [← HY.out]; exact hk)
  rw [← HY.out] at hd1
  have HDB:=Hy hd1
  have hk2:¬ wholeK (its.getD s.place default).kind:=by rw [← HY.out]; exact hk
  have HTV0:Hid (takeV its ds s = if s.base.length = (ds s.place).1 then (applyC s.base (ds s.place).2,(getOb s.kind (applyC s.base (ds s.place).2)).2) else ([],1)):=by show _ = _; unfold takeV; rw [if_neg hk2]
  generalize ds s.place = dd at *
  obtain ⟨dn,dc⟩:=dd
  dsimp only at *
  have hc2:w4.cell? ⟨w.heap.size,2,none⟩ = some (.string ⟨s.base.toArray⟩):=(HW4.out.at_ 2).trans K2.out
  clear hk hk2
  by_cases hln:s.base.length = dn
  ·rw [if_pos hln] at HTV0
   have HTV:=HTV0
   subst hln
   have HAP:Hid (∀ W,Calls Tryz.prog 17 #[.string ⟨s.base.toArray⟩,.string ⟨y.body.toArray⟩] W fun e w'=>e = .returned (.tuple #[.string ⟨(applyC s.base dc).toArray⟩,.int .i64 0]) ∧ Below W.heap.size W w'):=fun W=>by
    rw [HDB.out]
    exact dapply_any s.base dc W hd2 hb hd4
   have hbl:(applyC s.base dc).length ≤ 1000000:=by rw [applyC_len dc hd2]; exact hd4
   clear hd1 hd2 HTV0
   go_wp2_with (go_at_call 102; refine (HWH.out _).mono ?_; rintro e w' ⟨rfl,rfl⟩)
   refine (HAP.out w4).mono ?_
   rintro e w5 ⟨rfl,hb5⟩
   replace HM4:=Hy (HM4.out.later hb5)
   replace HW4:=Hy (HW4.out.below hb5 HW4.out.lt)
   replace HB4:=Hy (hTr HB4 hb5)
   clear hb5 HAP hc2 hb34 hk0 HI4
   go_upto_region 7 with fail
   have HGET:=Hy fun W=>ogetP_any s.kind (applyC s.base dc) W (by omega)
   have c1:w5.cell? ⟨p.m,1,none⟩ = some (.slice (some ⟨p.go,0,none⟩) its.length its.length):=(HM4.out.cells.at_ 1).trans rfl
   have HS:Hid (∀ W,MkM F W its p mk → Whole W w.heap.size 180 cs → (fun W:World=>W.cell? ⟨p.m,1,none⟩ = some (.slice (some ⟨p.go,0,none⟩) its.length its.length) ∧ W.cell? ⟨w.heap.size,0,none⟩ = some (.int .i64 (s.place:Int)) ∧ W.cell? ⟨w.heap.size,1,none⟩ = some (.int .i64 s.kind)) W):=fun W h k=>⟨(h.cells.at_ 1).trans rfl,(k.at_ 0).trans K0.out,(k.at_ 1).trans K1.out⟩
   refine wp_region_K (fun W=>W.cell? ⟨p.m,1,none⟩ = some (.slice (some ⟨p.go,0,none⟩) its.length its.length) ∧ W.cell? ⟨w.heap.size,0,none⟩ = some (.int .i64 (s.place:Int)) ∧ W.cell? ⟨w.heap.size,1,none⟩ = some (.int .i64 s.kind)) 14 (by kernel_rfl) ?_
   change wpAnyK _ _ _ _ _ _ _ _ _ (World.drew w5)
   have HM6:Hid (MkM F (World.drew w5) its p mk):=HM4.out.later (Below.refl _ _).drew
   have HW6:Hid (Whole (World.drew w5) w.heap.size 180 cs):=HW4.out
   have HB6:=Hy HB4.out.drew
   clear c1 HM4 HW4 HB4
   generalize World.drew w5 = w6 at *
   have hS0:=HS.out w6 HM6.out HW6.out
   refine wpAnyK_take0 (i:=0) (oi:=⟨some 35,_,_,_,_,none⟩) (v:=.pointer (some ⟨p.m,0,none⟩)) rfl (by kernel_rfl) (fun _ _ _ h=>h) (Or.inl ⟨by rfl,fun W hW=>?_⟩) (fun _=>hS0) ?_
   ·go_simp
   refine wpAnyK_take0 (i:=1) (oi:=⟨some 36,_,_,_,_,none⟩) (v:=.pointer (some ⟨p.m,0,none⟩)) rfl (by kernel_rfl) (fun _ _ _ h=>h) (Or.inl ⟨by rfl,fun W hW=>?_⟩) (fun _=>hS0) ?_
   ·go_simp
   refine wpAnyK_take0 (i:=2) (oi:=⟨some 37,_,_,_,_,none⟩) (v:=.pointer (some ⟨p.m,1,none⟩)) rfl (by kernel_rfl) (fun _ _ _ h=>h) (Or.inl ⟨by rfl,fun W hW=>?_⟩) (fun _=>hS0) ?_
   ·go_simp
   refine wpAnyK_take (i:=3) (oi:=⟨some 38,_,_,_,_,none⟩) (v:=.slice (some ⟨p.go,0,none⟩) its.length its.length) rfl (by kernel_rfl) (fun _ _ _ h=>h) (Or.inl ⟨by rfl,fun W hW=>?_⟩) hS0 ?_
   ·obtain ⟨s0,s1,s2⟩:=hW
    go_simp
   refine wpAnyK_take0 (i:=4) (oi:=⟨some 39,_,_,_,_,none⟩) (v:=.pointer (some ⟨w.heap.size,0,none⟩)) rfl (by kernel_rfl) (fun _ _ _ h=>h) (Or.inl ⟨by rfl,fun W hW=>?_⟩) (fun _=>hS0) ?_
   ·go_simp
   refine wpAnyK_take (i:=5) (oi:=⟨some 40,_,_,_,_,none⟩) (v:=.int .i64 (s.place:Int)) rfl (by kernel_rfl) (fun _ _ _ h=>h) (Or.inl ⟨by rfl,fun W hW=>?_⟩) hS0 ?_
   ·obtain ⟨s0,s1,s2⟩:=hW
    go_simp
   refine wpAnyK_take0 (i:=6) (oi:=⟨some 41,_,_,_,_,none⟩) (v:=.pointer (some ⟨w.heap.size,1,none⟩)) rfl (by kernel_rfl) (fun _ _ _ h=>h) (Or.inl ⟨by rfl,fun W hW=>?_⟩) (fun _=>hS0) ?_
   ·go_simp
   refine wpAnyK_take (i:=7) (oi:=⟨some 42,_,_,_,_,none⟩) (v:=.int .i64 s.kind) rfl (by kernel_rfl) (fun _ _ _ h=>h) (Or.inl ⟨by rfl,fun W hW=>?_⟩) hS0 ?_
   ·obtain ⟨s0,s1,s2⟩:=hW
    go_simp
   refine wpAnyK_take0 (i:=8) (oi:=⟨some 43,_,_,_,_,none⟩) (v:=.string ⟨((applyC s.base dc)).toArray⟩) rfl (by kernel_rfl) (fun _ _ _ h=>h) (Or.inl ⟨by rfl,fun W hW=>?_⟩) (fun _=>hS0) ?_
   ·go_simp
   try simp only [Act.put]
   try go_simp
   refine wpAnyK_ready (rs:=[9]) (by kernel_rfl) (by simp) ?_
   refine AllReadyK.cons (o:=_) rfl (fun K hK=>?_) AllReadyK.nil
   rw [if_pos (by rfl)]
   go_simp
   refine (HGET.out w6).mono ?_
   rintro e w7 ⟨⟨A,c,A2,c2,rfl,harg,ho1,ho2⟩,hb7⟩
   obtain ⟨q,hq⟩:∃ q:Obx,q = ⟨A,c,A2,c2,(getOb s.kind ((applyC s.base dc))).1⟩:=⟨_,rfl⟩
   have hqe:(encO A c A2 c2 (getOb s.kind ((applyC s.base dc))).1).toArray = (encX q).toArray:=by rw [hq]; rfl
   have HQX:Hid (q.x = (getOb s.kind ((applyC s.base dc))).1):=by show _ = _; rw [hq]
   have HHX:Hid (HasX w7 q):=by show HasX _ _; rw [hq]; exact harg
   have hm6:=HM6.out.cells.lt
   have hw6:=HB6.out.size
   have HOX:Hid (OffX F p q):=by
    show OffX _ _ _
    rw [hq]
    have h1:=HM6.out.cells.lt
    obtain ⟨xs,-,h2,-⟩:=HM6.out.objs
    have h2:=h2.lt
    obtain ⟨N,V,h3,-⟩:=HM6.out.names
    have h3:=h3.lt
    have hall:∀ j,w6.heap.size ≤ j → ¬ p.R j ∧ ¬ F j:=fun j hj=>by
     refine ⟨fun hR=>?_,fun hf=>?_⟩
     ·rcases hR with rfl | rfl | rfl <;> omega
     ·have:=hF j hf; omega
    exact ⟨fun j hj _=>hall j (ho1.1 j hj),fun j hj _=>hall j (ho2.1 j hj)⟩
   rw [hqe]
   have HM7:=Hy (HM6.out.later hb7)
   have HW7:=Hy (HW6.out.below hb7 HW6.out.lt)
   have HB7:=Hy (hTr HB6 hb7)
   have hS0:=HS.out w7 HM7.out HW7.out
   clear harg ho1 ho2 hb7 hq hqe HM6 HW6 HB6 HGET hm6
   refine hK _ _ (fun _=>hS0) ?_
   clear hK K
   refine wpAnyK_take0 (i:=10) (oi:=⟨some 34,_,_,_,_,none⟩) (v:=.tuple #[.agg (encX q).toArray,.int .i64 (getOb s.kind ((applyC s.base dc))).2]) rfl (by kernel_rfl) (fun _ _ _ h=>h) (Or.inl ⟨by rfl,fun W hW=>?_⟩) (fun _=>hS0) ?_
   ·go_simp
   refine wpAnyK_take0 (i:=11) (oi:=⟨some 45,_,_,_,_,none⟩) (v:=.agg (encX q).toArray) rfl (by kernel_rfl) (fun _ _ _ h=>h) (Or.inl ⟨by rfl,fun W hW=>?_⟩) (fun _=>hS0) ?_
   ·go_simp
   refine wpAnyK_take0 (i:=12) (oi:=⟨some 46,_,_,_,_,none⟩) (v:=.int .i64 (getOb s.kind ((applyC s.base dc))).2) rfl (by kernel_rfl) (fun _ _ _ h=>h) (Or.inl ⟨by rfl,fun W hW=>?_⟩) (fun _=>hS0) ?_
   ·go_simp
   try simp only [Act.put]
   try go_simp
   refine wpAnyK_take0 (i:=13) (oi:=⟨some 47,_,_,_,_,none⟩) (v:=.pointer (some ⟨p.go,s.place * 38,none⟩)) rfl (by kernel_rfl) (fun _ _ _ h=>h) (Or.inl ⟨by rfl,fun W hW=>?_⟩) (fun _=>hS0) ?_
   ·go_simp
   try simp only [Act.put]
   try go_simp
   have hth:w7.there p.go (s.place * 38) (encX q).toArray.size:=by
    obtain ⟨xs,hx1,hx2,-⟩:=HM7.out.objs
    have hxl:xs.length = its.length:=by rw [← HM7.out.olen,← hx1,List.length_map]
    intro j hj
    rw [encX_size] at hj
    refine ⟨?_,hx2.thawed _⟩
    rw [hx2.at_,Array.getElem?_eq_getElem (by rw [List.size_toArray,flatG_len encX_len,hxl]; omega)]
    rfl
   have hg8:=gr_setCells (g:=p.go) (encX q).toArray.toList (s.place * 38) w7 w7 (gr_refl _ _)
   have HM8:=Hy (HM7.out.setObj hp HHX.out HOX.out)
   have HA8:=Hy ((Alt.of_below (R:=p.R) HB7.out).grown hg8 (fun j hj=>by injection hj with hj; exact .inr (.inr (.inl hj.symm))))
   rw [HQX.out] at HM8
   refine wpAnyK_ready (rs:=[14]) (by kernel_rfl) (by simp) ?_
   refine AllReadyK.cons (o:=_) rfl (fun K hK=>?_) AllReadyK.nil
   rw [if_pos (by rfl)]
   refine wp_store_mid 49 _ _ rfl p.go (s.place * 38) (encX q).toArray rfl rfl hth (infoOx_s q) (encX_all q) ?_
   refine hK _ _ (fun h=>by cases h) ?_
   clear hK K hth hg8
   generalize w7.setCells p.go (s.place * 38) (encX q).toArray.toList = w8 at *
   refine wpAnyK_ready (rs:=[15]) (by kernel_rfl) (by simp) ?_
   refine AllReadyK.cons (o:=_) rfl (fun K hK=>?_) AllReadyK.nil
   rw [if_pos (by rfl)]
   go_simp
   refine hK _ _ (fun h=>by cases h) ?_
   clear hK K
   refine wpAnyK_done (by kernel_rfl) ?_ _
   try simp only [Act.put]
   try go_simp
   have c2:w8.cell? ⟨p.m,2,none⟩ = some (.int .i64 (mk.made:Int)):=(HM8.out.cells.at_ 2).trans rfl
   have f2:=HM8.out.cells.thawed 2
   have hmd:((mk.made + 1:Nat):Int) = (mk.made:Int) + 1:=by omega
   have HM9:Hid (MkM F (w8.setCell ⟨p.m,2,none⟩ (.int .i64 ((mk.made + 1:Nat):Int))) its p ⟨mk.objs.set s.place (getOb s.kind ((applyC s.base dc))).1,mk.made + 1,mk.dead⟩):=HM8.out.setMade (mk.made + 1)
   have HA9:=Hy (HA8.out.set (p:=⟨p.m,2,none⟩) (.inl (.inl rfl)) (.int .i64 ((mk.made + 1:Nat):Int)))
   rw [hmd] at HM9
   rw [hmd] at HA9
   clear HM7 HW7 HB7 HS hS0 hmd
   go_wp2
   go_ret2
   rw [HTV.out]
   exact ⟨rfl,HA9.out,fun _=>HM9.out⟩
  ·rw [if_neg hln] at HTV0
   have HAP:Hid (∀ W,Calls Tryz.prog 17 #[.string ⟨s.base.toArray⟩,.string ⟨y.body.toArray⟩] W fun e w'=>e = .returned (.tuple #[.string ⟨#[]⟩,.int .i64 1]) ∧ Below W.heap.size W w'):=fun W=>by
    rw [HDB.out]
    exact dapply_other dn s.base dc W hd2 hd3 hd4 (fun e=>hln e.symm)
   clear hd1 hd2
   go_wp2_with (go_at_call 102; refine (HWH.out _).mono ?_; rintro e w' ⟨rfl,rfl⟩)
   refine (HAP.out w4).mono ?_
   rintro e w5 ⟨rfl,hb5⟩
   have HA5:=Hy (Alt.of_below (R:=p.R) (HB4.out.trans (hb5.mono HB4.out.size)))
   clear hb5 HAP
   go_wp2
   go_ret2
   rw [HTV0.out]
   exact ⟨rfl,HA5.out,fun h=>by cases h⟩
end Go.Proofs.YtlfmooihcigolaaGreatDoor
