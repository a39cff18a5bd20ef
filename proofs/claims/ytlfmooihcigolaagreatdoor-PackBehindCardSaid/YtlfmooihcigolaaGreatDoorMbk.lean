/-
  BodF.
-/
import Derived.Test.YtlfmooihcigolaaGreatDoorMbj
set_option maxRecDepth 100000
set_option maxHeartbeats 8000000
namespace Go.Proofs.YtlfmooihcigolaaGreatDoor
open Go.RowKit
theorem wp_delN {w:World} {op:Oper} {a:Act} {K:Act → World → Prop} {Q:Exit → Act → World → Prop} (m x:Operand) (ho:op.op = .call { callee:=.builtin .delete,args:=#[m,x],argTypes:=#[113,30] }) (b N:Nat) (V:Nm → Value) (nm:Nm) (hm:a.eval m = .map (some b)) (hx:a.eval x = .agg (encN nm).toArray) (hO:OwnMap w b N V)
  (h:∀ w',(∀ N V,OwnMap w b N V → OwnMap w' b N (fun y=>if y = nm then nilS else V y)) → w.grownBy w' (some b) → K (a.put op.dst (.tuple #[])) w'):op.wp Tryz.prog a w K Q:=by
 obtain ⟨w',hr,-,hg⟩:=hO.del nm op.type
 have hd:∀ N V,OwnMap w b N V → OwnMap w' b N (fun y=>if y = nm then nilS else V y):=fun N V h=>by
  obtain ⟨w2,hr2,h2,-⟩:=h.del nm op.type
  have e:=hr.symm.trans hr2
  injection e with _ e
  rw [e]
  exact h2
 unfold Oper.wp
 simp [execOp,ho,resolve,invoke,builtin,hm,hx,hr,Result.andThen]
 exact h w' hd hg
theorem own_weak {w:World} {B B':Nat} {e:TypeId} {k n:Nat} {v:Value} {xs:List Value} (h:w.ownsRow B' e k v n xs) (hB:B ≤ B'):w.ownsRow B e k v n xs:=by
 refine ⟨h.1,?_⟩
 rcases h.2 with h2 | ⟨g,cap,cur,h1,h2,h3⟩
 ·exact .inl h2
 ·exact .inr ⟨g,cap,cur,h1,Nat.le_trans hB h2,h3⟩
theorem zN_lit:(#[Z8,Z8,Z8,Z8,Z8,Z8,Z8,Z8,Z8,Z8,Z8,Z8,Z8,Z8,Z8,Z8,Z8,Z8,Z8,Z8,Z8,Z8,Z8,Z8,Z8,Z8,Z8,Z8,Z8,Z8,Z8,Z8]:Array Value) = (encN default).toArray:=rfl
theorem pbehind_any (F:Nat → Prop) (its:List It) (p:Mng) (mk:Mk) (s:Stp) (b:List UInt8) (w:World) (hM:MkM F w its p mk) (hp:s.place < its.length) (hn:its.length ≤ 200) (hTab:Tabs w) (hT:Tens w)
  (hX:(mk.objs.getD s.place zO).commit.time < 18446744073709551616 ∧ (mk.objs.getD s.place zO).entries.length ≤ 1048576 ∧ (mayO' (mk.objs.getD s.place zO) = true → (bytesO (mk.objs.getD s.place zO)).length ≤ 100000)) :
  Calls Tryz.prog 164 #[.pointer (some ⟨p.m,0,none⟩),.agg (encS s).toArray,.string ⟨b.toArray⟩] w fun e w'=>(∃ v,e = .returned v ∧ w'.ownsRow w.heap.size 180 3 v (stepsV (backsTo its its.length s.place ++ waits its mk.dead (idO (mk.objs.getD s.place zO))) s.kind b).length ((stepsV (backsTo its its.length s.place ++ waits its mk.dead (idO (mk.objs.getD s.place zO))) s.kind b).flatMap encS)) ∧ Alt p.R w w' ∧ MkM F w' its p ⟨mk.objs,mk.made,idO (mk.objs.getD s.place zO) :: mk.dead⟩:=by
 obtain ⟨hW,hB⟩:=sbox s w
 have HM1:=Hy (hM.later hB)
 have HW:=Hy hW
 have HB:=Hy hB
 have hs1:(w.alloc (.cells (encS s).toArray 180)).heap.size = w.heap.size + 1:=by simp
 have hMm:=hM.cells.lt
 have ht1:=hTab.lt1
 have ht2:=hTab.lt2
 have HTB:=Hy hTab
 have HTE:=Hy hT
 obtain ⟨q,hq1,hq2,hq3⟩:∃ q:Obx,q.x = mk.objs.getD s.place zO ∧ HasX w q ∧ w.rangeAt p.go (s.place * 38) (encX q):=by
  obtain ⟨xs,h1,h2,h3⟩:=hM.objs
  have hxl:xs.length = its.length:=by rw [← hM.olen,← h1,List.length_map]
  refine ⟨xs.getD s.place default,?_,?_,?_⟩
  ·rw [← h1]
   simp [List.getD,List.getElem?_eq_getElem (show s.place < xs.length by omega)]
  ·have e:xs.getD s.place default = xs[s.place]'(by omega):=by simp [List.getD,List.getElem?_eq_getElem (show s.place < xs.length by omega)]
   rw [e]
   exact (h3 _ (List.getElem_mem _)).1
  ·intro j v hv
   have hj:j < 38:=by
    have:=(List.getElem?_eq_some_iff.1 hv).1
    rwa [encX_len] at this
   rw [h2.at_,List.getElem?_toArray,flatG_at (d:=default) encX_len xs s.place j (by omega) hj]
   exact hv
 have HID:Hid (∀ W,Below w.heap.size w W → Calls Tryz.prog 150 #[.agg (encX q).toArray] W fun e w'=>e = .returned (.tuple #[.agg (encN (idO q.x)).toArray,.bool (mayO' q.x)]) ∧ Below W.heap.size W w'):=fun W hW=>oid_any q.A q.c q.A2 q.c2 q.x W (ArgO.later hq2 hW) (by rw [hq1]; exact hX.1) (by rw [hq1]; exact hX.2.1) (HTB.out.below hW ht1 ht2) (HTE.out.below hW) (by rw [hq1]; exact hX.2.2)
 rw [← hq1]
 obtain ⟨id,hid⟩:∃ id,id = idO q.x:=⟨_,rfl⟩
 rw [← hid] at HID ⊢
 obtain ⟨mo,hmo⟩:∃ mo,mo = mayO' q.x:=⟨_,rfl⟩
 rw [← hmo] at HID
 have hl1:=backsTo_le its its.length s.place
 have hl2:=waits_le its mk.dead id
 obtain ⟨ns1,hns1⟩:∃ ns1,ns1 = backsTo its its.length s.place:=⟨_,rfl⟩
 obtain ⟨ns2,hns2⟩:∃ ns2,ns2 = waits its mk.dead id:=⟨_,rfl⟩
 rw [← hns1] at hl1
 rw [← hns2] at hl2
 rw [← hns1,← hns2]
 have HN1:=Hy hns1
 have HN2:=Hy hns2
 clear hns1 hns2
 have HMW:=Hy hM.names
 have HR1:Hid ((w.alloc (.cells (encS s).toArray 180)).rangeAt p.go (s.place * 38) (encX q)):=fun j v hv=>cell_grown (hq3 j v hv) (grown_none hB) (by simp)
 clear hW hB hM hq1 hq2 hq3 hX hid hmo hTab hT
 generalize hcs:(encS s).toArray = cs at *
 have K0:Hid (cs[0]? = some (.int .i64 (s.place:Int))):=by show _ = _; rw [← hcs]; rfl
 have K1:Hid (cs[1]? = some (.int .i64 s.kind)):=by show _ = _; rw [← hcs]; rfl
 clear hcs
 have hlt':(s.place:Int) < (its.length:Int):=by omega
 go_enter Tryz.func164,Tryz.ntmps164
 go_upto_region 1 with fail
 generalize w.alloc (.cells cs 180) = w1 at *
 have HMd:Hid (MkM F w1.drew its p mk):=HM1.out.later (Below.refl _ _).drew
 have HWd:Hid (Whole w1.drew w.heap.size 180 cs):=HW.out
 have HBd:=Hy HB.out.drew
 have HRd:Hid (w1.drew.rangeAt p.go (s.place * 38) (encX q)):=HR1.out
 clear HM1 HW HB HR1
 refine wp_region_K (fun W=>W.cell? ⟨p.m,1,none⟩ = some (.slice (some ⟨p.go,0,none⟩) its.length its.length) ∧ W.cell? ⟨w.heap.size,0,none⟩ = some (.int .i64 (s.place:Int)) ∧ W.rangeAt p.go (s.place * 38) (encX q)) 13 (by kernel_rfl) ?_
 change wpAnyK _ _ _ _ _ _ _ _ _ (World.drew w1)
 have hs2:w1.drew.heap.size = w.heap.size + 1:=hs1
 generalize World.drew w1 = w2 at *
 have hS0:w2.cell? ⟨p.m,1,none⟩ = some (.slice (some ⟨p.go,0,none⟩) its.length its.length) ∧ w2.cell? ⟨w.heap.size,0,none⟩ = some (.int .i64 (s.place:Int)) ∧ w2.rangeAt p.go (s.place * 38) (encX q):=⟨(HMd.out.cells.at_ 1).trans rfl,(HWd.out.at_ 0).trans K0.out,HRd.out⟩
 refine wpAnyK_take0 (i:=0) (oi:=⟨some 11,_,_,_,_,none⟩) (v:=.pointer (some ⟨p.m,0,none⟩)) rfl (by kernel_rfl) (fun _ _ _ h=>h) (Or.inl ⟨by rfl,fun W hW=>?_⟩) (fun _=>hS0) ?_
 ·go_simp
 refine wpAnyK_take0 (i:=1) (oi:=⟨some 12,_,_,_,_,none⟩) (v:=.pointer (some ⟨p.m,0,none⟩)) rfl (by kernel_rfl) (fun _ _ _ h=>h) (Or.inl ⟨by rfl,fun W hW=>?_⟩) (fun _=>hS0) ?_
 ·go_simp
 refine wpAnyK_take0 (i:=2) (oi:=⟨some 13,_,_,_,_,none⟩) (v:=.pointer (some ⟨p.m,1,none⟩)) rfl (by kernel_rfl) (fun _ _ _ h=>h) (Or.inl ⟨by rfl,fun W hW=>?_⟩) (fun _=>hS0) ?_
 ·go_simp
 refine wpAnyK_take (i:=3) (oi:=⟨some 14,_,_,_,_,none⟩) (v:=.slice (some ⟨p.go,0,none⟩) its.length its.length) rfl (by kernel_rfl) (fun _ _ _ h=>h) (Or.inl ⟨by rfl,fun W hW=>?_⟩) hS0 ?_
 ·obtain ⟨s0,s1,s2⟩:=hW
  go_simp
 refine wpAnyK_take0 (i:=4) (oi:=⟨some 15,_,_,_,_,none⟩) (v:=.pointer (some ⟨w.heap.size,0,none⟩)) rfl (by kernel_rfl) (fun _ _ _ h=>h) (Or.inl ⟨by rfl,fun W hW=>?_⟩) (fun _=>hS0) ?_
 ·go_simp
 refine wpAnyK_take (i:=5) (oi:=⟨some 16,_,_,_,_,none⟩) (v:=.int .i64 (s.place:Int)) rfl (by kernel_rfl) (fun _ _ _ h=>h) (Or.inl ⟨by rfl,fun W hW=>?_⟩) hS0 ?_
 ·obtain ⟨s0,s1,s2⟩:=hW
  go_simp
 try simp only [Act.put]
 try go_simp
 refine wpAnyK_take0 (i:=6) (oi:=⟨some 17,_,_,_,_,none⟩) (v:=.pointer (some ⟨p.go,s.place * 38,none⟩)) rfl (by kernel_rfl) (fun _ _ _ h=>h) (Or.inl ⟨by rfl,fun W hW=>?_⟩) (fun _=>hS0) ?_
 ·go_simp
 try simp only [Act.put]
 try go_simp
 refine wpAnyK_take (i:=7) (oi:=_) (v:=.agg (encX q).toArray) rfl (by kernel_rfl) (fun _ _ _ h=>h) (yieldsIf_load_mid (by rfl) _ _ rfl p.go (s.place * 38) rfl (encX q) _ (fun W hW=>hW.2.2) Tryz.underlying49 rfl (infoOx q)) hS0 ?_
 try simp only [Act.put]
 try go_simp
 refine wpAnyK_ready (rs:=[8,12]) (by kernel_rfl) (by simp) ?_
 refine AllReadyK.cons (o:=_) rfl (fun K hK=>?_) (AllReadyK.cons (o:=_) rfl (fun K hK=>?_) AllReadyK.nil)
 ·rw [if_pos (by rfl)]
  try rw [if_pos (by rfl)]
  try go_simp
  refine (HID.out w2 HBd.out).mono ?_
  rintro e w3 ⟨rfl,hb3⟩
  have HM3:=Hy (HMd.out.later hb3)
  have HW3:=Hy (HWd.out.below hb3 HWd.out.lt)
  have HB3:=Hy (hTr HBd hb3)
  have hs3:=hb3.size
  have hS0:(fun W:World=>W.cell? ⟨p.m,1,none⟩ = some (.slice (some ⟨p.go,0,none⟩) its.length its.length) ∧ W.cell? ⟨w.heap.size,0,none⟩ = some (.int .i64 (s.place:Int)) ∧ W.rangeAt p.go (s.place * 38) (encX q)) w3:=⟨cell_grown hS0.1 (grown_none hb3) (by simp),cell_grown hS0.2.1 (grown_none hb3) (by simp),fun j v hv=>cell_grown (hS0.2.2 j v hv) (grown_none hb3) (by simp)⟩
  refine hK _ _ (fun _=>hS0) ?_
  clear hK K hb3
  refine wpAnyK_take0 (i:=9) (oi:=⟨some 10,_,_,_,_,none⟩) (v:=.tuple #[.agg (encN id).toArray,.bool mo]) rfl (by kernel_rfl) (fun _ _ _ h=>h) (Or.inl ⟨by rfl,fun W hW=>?_⟩) (fun _=>hS0) ?_
  ·go_simp
  refine wpAnyK_take0 (i:=10) (oi:=⟨some 20,_,_,_,_,none⟩) (v:=.agg (encN id).toArray) rfl (by kernel_rfl) (fun _ _ _ h=>h) (Or.inl ⟨by rfl,fun W hW=>?_⟩) (fun _=>hS0) ?_
  ·go_simp
  refine wpAnyK_take0 (i:=11) (oi:=⟨some 21,_,_,_,_,none⟩) (v:=.bool mo) rfl (by kernel_rfl) (fun _ _ _ h=>h) (Or.inl ⟨by rfl,fun W hW=>?_⟩) (fun _=>hS0) ?_
  ·go_simp
  try simp only [Act.put]
  try go_simp
  refine wpAnyK_ready (rs:=[12]) (by kernel_rfl) (by simp) ?_
  refine AllReadyK.cons (o:=_) rfl (fun K hK=>?_) AllReadyK.nil
  rw [if_pos (by rfl)]
  go_simp
  rw [zN_lit]
  have hb4:=(Below.refl w3.heap.size w3).alloc (Nat.le_refl _) (.cells (encN default).toArray 30)
  have HZ4:=Hy (Whole.made w3 30 (encN default).toArray)
  refine hK _ _ (fun _=>⟨cell_grown hS0.1 (grown_none hb4) (by simp),cell_grown hS0.2.1 (grown_none hb4) (by simp),fun j v hv=>cell_grown (hS0.2.2 j v hv) (grown_none hb4) (by simp)⟩) ?_
  clear hK K hb4 hS0
  have hg5:(w3.alloc (.cells (encN default).toArray 30)).grownBy ((w3.alloc (.cells (encN default).toArray 30)).setCells w3.heap.size 0 (encN id).toArray.toList) (some w3.heap.size):=gr_setCells (g:=w3.heap.size) (encN id).toArray.toList 0 _ _ (gr_refl _ _)
  have hth:(w3.alloc (.cells (encN default).toArray 30)).there w3.heap.size 0 (encN id).toArray.size:=by
   intro j hj
   rw [encN_size] at hj
   refine ⟨?_,HZ4.out.thawed _⟩
   rw [HZ4.out.at_,Array.getElem?_eq_getElem (by rw [encN_size]; omega)]
   rfl
  have HI5:Hid (Whole ((w3.alloc (.cells (encN default).toArray 30)).setCells w3.heap.size 0 (encN id).toArray.toList) w3.heap.size 30 (encN id).toArray):=by
   have h9:=whole_setCells (encN id).toArray.toList 0 _ _ HZ4.out (by have h1:=encN_len id; rw [encN_size]; simp; omega)
   rw [List.take_zero,List.nil_append] at h9
   exact h9
  have hb5:=made_below' hg5
  have HM5:=Hy (HM3.out.later hb5)
  have HW5:=Hy (HW3.out.below hb5 HW3.out.lt)
  have HB5:=Hy (hTr HB3 hb5)
  refine wpAnyK_ready (rs:=[13]) (by kernel_rfl) (by simp) ?_
  refine AllReadyK.cons (o:=_) rfl (fun K hK=>?_) AllReadyK.nil
  rw [if_pos (by rfl)]
  refine wp_store_mid 30 _ _ rfl w3.heap.size 0 (encN id).toArray rfl rfl hth (by rw [encN_size]; exact infoN) (encN_all id) ?_
  refine hK _ _ (fun h=>by cases h) ?_
  clear hK K hth hg5 hb5 HZ4
  generalize (w3.alloc (.cells (encN default).toArray 30)).setCells w3.heap.size 0 (encN id).toArray.toList = w5 at *
  generalize w3.heap.size = g at *
  refine wpAnyK_ready (rs:=[14]) (by kernel_rfl) (by simp) ?_
  refine AllReadyK.cons (o:=_) rfl (fun K hK=>?_) AllReadyK.nil
  rw [if_pos (by rfl)]
  go_simp
  refine hK _ _ (fun h=>by cases h) ?_
  clear hK K
  refine wpAnyK_done (by kernel_rfl) ?_ _
  try simp only [Act.put]
  try go_simp
  clear HMd HWd HBd HRd hs2 HM3 HW3 HB3 hs3 HID
  obtain ⟨A1,c1,hbc,hba⟩:∃ A1 c1,w5.cell? ⟨p.gb,s.place,none⟩ = some (.slice A1 (backsTo its its.length s.place).length c1) ∧ ArgZ w5 A1 c1 (backsTo its its.length s.place):=by
   obtain ⟨vs,hv⟩:=HM5.out.backs
   obtain ⟨h1,h2,-⟩:=hv s.place hp
   exact ⟨_,_,h1,h2⟩
  obtain ⟨N,A2,c2,V,hnm,hv2,hna⟩:∃ N A2 c2 V,OwnMap w5 p.mb N V ∧ V id = .slice A2 (waits its mk.dead id).length c2 ∧ ArgZ w5 A2 c2 (waits its mk.dead id):=by
   obtain ⟨N,V,h1,h2⟩:=HM5.out.names
   exact ⟨N,_,_,_,h1,rfl,(h2 id).1⟩
  rw [← HN1.out] at hbc hba
  rw [← HN2.out] at hv2 hna
  have HBC:=Hy hbc
  have HBA:=Hy hba
  have HNM:=Hy hnm
  have HNA:=Hy hna
  clear hbc hba hnm hna
  go_upto_region 2 with fail
  refine wp_region_K (fun W=>W.cell? ⟨p.m,3,none⟩ = some (.slice (some ⟨p.gb,0,none⟩) its.length its.length) ∧ W.cell? ⟨w.heap.size,0,none⟩ = some (.int .i64 (s.place:Int)) ∧ W.cell? ⟨p.gb,s.place,none⟩ = some (.slice A1 ns1.length c1) ∧ W.cell? ⟨p.m,4,none⟩ = some (.map (some p.mb)) ∧ W.rangeAt g 0 (encN id) ∧ (Instr.lookup 113 (.map (some p.mb)) (.agg (encN id).toArray) false).run Tryz.prog W = .ok (.slice A2 ns2.length c2) W) 16 (by kernel_rfl) ?_
  change wpAnyK _ _ _ _ _ _ _ _ _ (World.drew w5)
  have hb6:=(Below.refl w5.heap.size w5).drew
  have HM6:=Hy (HM5.out.later hb6)
  have HW6:Hid (Whole (World.drew w5) w.heap.size 180 cs):=HW5.out
  have HI6:Hid (Whole (World.drew w5) g 30 (encN id).toArray):=HI5.out
  have HB6:=Hy HB5.out.drew
  have HBA6:=Hy (HBA.out.later hb6)
  have HNA6:=Hy (HNA.out.later hb6)
  have HNM6:Hid (OwnMap (World.drew w5) p.mb N V):=HNM.out.grown (grown_none hb6) (by simp)
  have hs0c:(World.drew w5).cell? ⟨p.gb,s.place,none⟩ = some (.slice A1 ns1.length c1):=HBC.out
  clear HM5 HW5 HI5 HB5 HBA HNA HNM HBC hb6
  generalize World.drew w5 = w6 at *
  have hlook:=HNM6.out.look id
  rw [hv2] at hlook
  have hS0:w6.cell? ⟨p.m,3,none⟩ = some (.slice (some ⟨p.gb,0,none⟩) its.length its.length) ∧ w6.cell? ⟨w.heap.size,0,none⟩ = some (.int .i64 (s.place:Int)) ∧ w6.cell? ⟨p.gb,s.place,none⟩ = some (.slice A1 ns1.length c1) ∧ w6.cell? ⟨p.m,4,none⟩ = some (.map (some p.mb)) ∧ w6.rangeAt g 0 (encN id) ∧ (Instr.lookup 113 (.map (some p.mb)) (.agg (encN id).toArray) false).run Tryz.prog w6 = .ok (.slice A2 ns2.length c2) w6:=⟨(HM6.out.cells.at_ 3).trans rfl,(HW6.out.at_ 0).trans K0.out,hs0c,(HM6.out.cells.at_ 4).trans rfl,whole_range HI6.out,hlook⟩
  clear hlook hs0c
  refine wpAnyK_take0 (i:=0) (oi:=⟨some 22,_,_,_,_,none⟩) (v:=.pointer (some ⟨p.m,0,none⟩)) rfl (by kernel_rfl) (fun _ _ _ h=>h) (Or.inl ⟨by rfl,fun W hW=>?_⟩) (fun _=>hS0) ?_
  ·go_simp
  refine wpAnyK_take0 (i:=1) (oi:=⟨some 23,_,_,_,_,none⟩) (v:=.pointer (some ⟨p.m,0,none⟩)) rfl (by kernel_rfl) (fun _ _ _ h=>h) (Or.inl ⟨by rfl,fun W hW=>?_⟩) (fun _=>hS0) ?_
  ·go_simp
  refine wpAnyK_take0 (i:=2) (oi:=⟨some 24,_,_,_,_,none⟩) (v:=.pointer (some ⟨p.m,3,none⟩)) rfl (by kernel_rfl) (fun _ _ _ h=>h) (Or.inl ⟨by rfl,fun W hW=>?_⟩) (fun _=>hS0) ?_
  ·go_simp
  refine wpAnyK_take (i:=3) (oi:=⟨some 25,_,_,_,_,none⟩) (v:=.slice (some ⟨p.gb,0,none⟩) its.length its.length) rfl (by kernel_rfl) (fun _ _ _ h=>h) (Or.inl ⟨by rfl,fun W hW=>?_⟩) hS0 ?_
  ·obtain ⟨s0,s1,s2,s3,s4,s5⟩:=hW
   go_simp
  refine wpAnyK_take0 (i:=4) (oi:=⟨some 26,_,_,_,_,none⟩) (v:=.pointer (some ⟨w.heap.size,0,none⟩)) rfl (by kernel_rfl) (fun _ _ _ h=>h) (Or.inl ⟨by rfl,fun W hW=>?_⟩) (fun _=>hS0) ?_
  ·go_simp
  refine wpAnyK_take (i:=5) (oi:=⟨some 27,_,_,_,_,none⟩) (v:=.int .i64 (s.place:Int)) rfl (by kernel_rfl) (fun _ _ _ h=>h) (Or.inl ⟨by rfl,fun W hW=>?_⟩) hS0 ?_
  ·obtain ⟨s0,s1,s2,s3,s4,s5⟩:=hW
   go_simp
  try simp only [Act.put]
  try go_simp
  refine wpAnyK_take0 (i:=6) (oi:=⟨some 28,_,_,_,_,none⟩) (v:=.pointer (some ⟨p.gb,s.place,none⟩)) rfl (by kernel_rfl) (fun _ _ _ h=>h) (Or.inl ⟨by rfl,fun W hW=>?_⟩) (fun _=>hS0) ?_
  ·go_simp
  refine wpAnyK_take (i:=7) (oi:=⟨some 29,_,_,_,_,none⟩) (v:=.slice A1 ns1.length c1) rfl (by kernel_rfl) (fun _ _ _ h=>h) (Or.inl ⟨by rfl,fun W hW=>?_⟩) hS0 ?_
  ·obtain ⟨s0,s1,s2,s3,s4,s5⟩:=hW
   go_simp
  refine wpAnyK_take0 (i:=8) (oi:=⟨some 30,_,_,_,_,none⟩) (v:=.pointer (some ⟨p.m,0,none⟩)) rfl (by kernel_rfl) (fun _ _ _ h=>h) (Or.inl ⟨by rfl,fun W hW=>?_⟩) (fun _=>hS0) ?_
  ·go_simp
  refine wpAnyK_take0 (i:=9) (oi:=⟨some 31,_,_,_,_,none⟩) (v:=.pointer (some ⟨p.m,0,none⟩)) rfl (by kernel_rfl) (fun _ _ _ h=>h) (Or.inl ⟨by rfl,fun W hW=>?_⟩) (fun _=>hS0) ?_
  ·go_simp
  refine wpAnyK_take0 (i:=10) (oi:=⟨some 32,_,_,_,_,none⟩) (v:=.pointer (some ⟨p.m,4,none⟩)) rfl (by kernel_rfl) (fun _ _ _ h=>h) (Or.inl ⟨by rfl,fun W hW=>?_⟩) (fun _=>hS0) ?_
  ·go_simp
  refine wpAnyK_take (i:=11) (oi:=⟨some 33,_,_,_,_,none⟩) (v:=.map (some p.mb)) rfl (by kernel_rfl) (fun _ _ _ h=>h) (Or.inl ⟨by rfl,fun W hW=>?_⟩) hS0 ?_
  ·obtain ⟨s0,s1,s2,s3,s4,s5⟩:=hW
   go_simp
  try simp only [Act.put]
  try go_simp
  refine wpAnyK_take (i:=12) (oi:=_) (v:=.agg (encN id).toArray) rfl (by kernel_rfl) (fun _ _ _ h=>h) (yieldsIf_load_mid (by rfl) _ _ rfl g (0) rfl (encN id) _ (fun W hW=>hW.2.2.2.2.1) Tryz.underlying30 rfl (infoN_l id)) hS0 ?_
  try simp only [Act.put]
  try go_simp
  refine wpAnyK_take (i:=13) (oi:=⟨some 35,_,_,_,_,none⟩) (v:=.slice A2 ns2.length c2) rfl (by kernel_rfl) (fun _ _ _ h=>h) (Or.inl ⟨by rfl,fun W hW=>?_⟩) hS0 ?_
  ·obtain ⟨s0,s1,s2,s3,s4,s5⟩:=hW
   go_simp
  try simp only [Act.put]
  try go_simp
  refine wpAnyK_ready (rs:=[14]) (by kernel_rfl) (by simp) ?_
  refine AllReadyK.cons (o:=_) rfl (fun K hK=>?_) AllReadyK.nil
  rw [if_pos (by rfl)]
  go_simp
  have HS:Hid (∀ W,Below w6.heap.size w6 W → (fun W:World=>W.cell? ⟨p.m,3,none⟩ = some (.slice (some ⟨p.gb,0,none⟩) its.length its.length) ∧ W.cell? ⟨w.heap.size,0,none⟩ = some (.int .i64 (s.place:Int)) ∧ W.cell? ⟨p.gb,s.place,none⟩ = some (.slice A1 ns1.length c1) ∧ W.cell? ⟨p.m,4,none⟩ = some (.map (some p.mb)) ∧ W.rangeAt g 0 (encN id) ∧ (Instr.lookup 113 (.map (some p.mb)) (.agg (encN id).toArray) false).run Tryz.prog W = .ok (.slice A2 ns2.length c2) W) W):=fun W hb=>⟨cell_grown hS0.1 (grown_none hb) (by simp),cell_grown hS0.2.1 (grown_none hb) (by simp),cell_grown hS0.2.2.1 (grown_none hb) (by simp),cell_grown hS0.2.2.2.1 (grown_none hb) (by simp),fun j v hv=>cell_grown (hS0.2.2.2.2.1 j v hv) (grown_none hb) (by simp),by
   have:=(HNM6.out.grown (grown_none hb) (by simp)).look id
   rw [hv2] at this
   exact this⟩
  have hb7:=(Below.refl w6.heap.size w6).alloc (Nat.le_refl _) (.cells #[.slice A1 ns1.length c1,.slice A2 ns2.length c2] 59)
  have hz7:=Whole.made w6 59 #[.slice A1 ns1.length c1,.slice A2 ns2.length c2]
  have HC:=Hy (pconcat_any w6.heap.size A1 c1 ns1 A2 c2 ns2 (w6.alloc (.cells #[.slice A1 ns1.length c1,.slice A2 ns2.length c2] 59)) ((hz7.at_ 0).trans rfl) ((hz7.at_ 1).trans rfl) (HBA6.out.later hb7) (HNA6.out.later hb7) (by omega))
  have HB7:=Hy hb7
  clear hS0 hz7 hb7
  refine hK _ _ (fun _=>HS.out _ HB7.out) ?_
  clear hK K
  refine wpAnyK_ready (rs:=[15]) (by kernel_rfl) (by simp) ?_
  refine AllReadyK.cons (o:=_) rfl (fun K hK=>?_) AllReadyK.nil
  rw [if_pos (by rfl)]
  go_simp
  refine HC.out.mono ?_
  rintro e w8 ⟨⟨A3,c3,rfl,hA3,hlo3⟩,hb8⟩
  have hs7:=HB7.out.size
  have HB8:=Hy (HB7.out.trans (hb8.mono hs7))
  have HA3:=Hy hA3
  have HLO3:Hid (∀ j,inBlk A3 j → w6.heap.size ≤ j):=fun j hj=>Nat.le_trans hs7 (hlo3 j hj)
  clear hA3 hlo3 hb8 HB7 HC hs7
  refine hK _ _ (fun _=>HS.out _ HB8.out) ?_
  clear hK K HS
  refine wpAnyK_ready (rs:=[16]) (by kernel_rfl) (by simp) ?_
  refine AllReadyK.cons (o:=_) rfl (fun K hK=>?_) AllReadyK.nil
  rw [if_pos (by rfl)]
  go_simp
  refine hK _ _ (fun h=>by cases h) ?_
  clear hK K
  refine wpAnyK_done (by kernel_rfl) ?_ _
  try simp only [Act.put]
  try go_simp
  have hmb6:p.mb < w6.heap.size:=HNM6.out.lt
  have HM8:=Hy (HM6.out.later HB8.out)
  have HW8:=Hy (HW6.out.below HB8.out HW6.out.lt)
  have HI8:=Hy (HI6.out.below HB8.out HI6.out.lt)
  have HBw8:=Hy (hTr HB6 HB8.out)
  have HNM8:=Hy (HNM6.out.grown (grown_none HB8.out) (by simp))
  clear HM6 HW6 HI6 HB6 HNM6 HBA6 HNA6 HB8
  go_upto_region 3 with fail
  refine wp_region_K (fun W=>W.cell? ⟨p.m,4,none⟩ = some (.map (some p.mb)) ∧ W.rangeAt g 0 (encN id)) 5 (by kernel_rfl) ?_
  change wpAnyK _ _ _ _ _ _ _ _ _ (World.drew w8)
  have hb9:=(Below.refl w8.heap.size w8).drew
  have HM9:=Hy (HM8.out.later hb9)
  have HW9:Hid (Whole (World.drew w8) w.heap.size 180 cs):=HW8.out
  have HI9:Hid (Whole (World.drew w8) g 30 (encN id).toArray):=HI8.out
  have HB9:=Hy HBw8.out.drew
  have HA9:=Hy (HA3.out.later hb9)
  have HNM9:Hid (OwnMap (World.drew w8) p.mb N V):=HNM8.out.grown (grown_none hb9) (by simp)
  clear HM8 HW8 HI8 HBw8 HA3 HNM8 hb9
  generalize World.drew w8 = w9 at *
  have hS0:w9.cell? ⟨p.m,4,none⟩ = some (.map (some p.mb)) ∧ w9.rangeAt g 0 (encN id):=⟨(HM9.out.cells.at_ 4).trans rfl,whole_range HI9.out⟩
  refine wpAnyK_take0 (i:=0) (oi:=⟨some 38,_,_,_,_,none⟩) (v:=.pointer (some ⟨p.m,0,none⟩)) rfl (by kernel_rfl) (fun _ _ _ h=>h) (Or.inl ⟨by rfl,fun W hW=>?_⟩) (fun _=>hS0) ?_
  ·go_simp
  refine wpAnyK_take0 (i:=1) (oi:=⟨some 39,_,_,_,_,none⟩) (v:=.pointer (some ⟨p.m,0,none⟩)) rfl (by kernel_rfl) (fun _ _ _ h=>h) (Or.inl ⟨by rfl,fun W hW=>?_⟩) (fun _=>hS0) ?_
  ·go_simp
  refine wpAnyK_take0 (i:=2) (oi:=⟨some 40,_,_,_,_,none⟩) (v:=.pointer (some ⟨p.m,4,none⟩)) rfl (by kernel_rfl) (fun _ _ _ h=>h) (Or.inl ⟨by rfl,fun W hW=>?_⟩) (fun _=>hS0) ?_
  ·go_simp
  refine wpAnyK_take (i:=3) (oi:=⟨some 41,_,_,_,_,none⟩) (v:=.map (some p.mb)) rfl (by kernel_rfl) (fun _ _ _ h=>h) (Or.inl ⟨by rfl,fun W hW=>?_⟩) hS0 ?_
  ·obtain ⟨s0,s1⟩:=hW
   go_simp
  try simp only [Act.put]
  try go_simp
  refine wpAnyK_take (i:=4) (oi:=_) (v:=.agg (encN id).toArray) rfl (by kernel_rfl) (fun _ _ _ h=>h) (yieldsIf_load_mid (by rfl) _ _ rfl g (0) rfl (encN id) _ (fun W hW=>hW.2) Tryz.underlying30 rfl (infoN_l id)) hS0 ?_
  try simp only [Act.put]
  try go_simp
  refine wpAnyK_ready (rs:=[5]) (by kernel_rfl) (by simp) ?_
  refine AllReadyK.cons (o:=_) rfl (fun K hK=>?_) AllReadyK.nil
  rw [if_pos (by rfl)]
  refine wp_delN _ _ rfl p.mb N V id rfl rfl HNM9.out (fun w10 hdl hgr=>?_)
  have HM10:=Hy (HM9.out.del id hgr hdl)
  have hR10:∀ j,some p.mb = some j → w.heap.size ≤ j ∨ p.R j:=fun j hj=>by injection hj with hj; exact .inr (.inr (.inr hj.symm))
  have HAL10:=Hy ((Alt.of_below (R:=p.R) HB9.out).grown hgr hR10)
  have HA10:=Hy (HA9.out.grown hgr (fun j hj _ e=>by injection e with e; have:=HLO3.out j hj; omega))
  have hmw:p.mb ≠ w.heap.size:=by
   intro e
   obtain ⟨N9,V9,h9,-⟩:=HMW.out
   have:=h9.lt
   omega
  have HW10:=Hy (HW9.out.grown hgr (fun e=>by injection e with e; exact hmw e.symm))
  have e1:w10.cell? ⟨w.heap.size,1,none⟩ = some (.int .i64 s.kind):=(HW10.out.at_ 1).trans K1.out
  clear HM9 HW9 HI9 HB9 HA9 HNM9 hdl hgr hR10 hmw hS0
  refine hK _ _ (fun h=>by cases h) ?_
  clear hK K
  refine wpAnyK_done (by kernel_rfl) ?_ _
  try simp only [Act.put]
  try go_simp
  go_wp2_with fail
  have hso:=pstepsof_any A3 c3 (ns1 ++ ns2) s.kind b w10 HA10.out (by rw [List.length_append]; omega)
  rw [List.length_append] at hso
  with_reducible refine hso.mono ?_
  rintro e w11 ⟨⟨v,rfl,hown⟩,hb11⟩
  have HOW:=Hy (own_weak hown (show w.heap.size ≤ w10.heap.size from HAL10.out.size))
  have HM11:=Hy (HM10.out.later hb11)
  have HAL11:=Hy (HAL10.out.below hb11)
  clear hown hb11 HM10 HAL10 HA10
  go_wp2
  go_ret
  exact ⟨⟨v,rfl,HOW.out⟩,HAL11.out,HM11.out⟩
 ·rw [if_pos (by rfl)]
  go_simp
  rw [zN_lit]
  have hb4:=(Below.refl w2.heap.size w2).alloc (Nat.le_refl _) (.cells (encN default).toArray 30)
  have HZ4:=Hy (Whole.made w2 30 (encN default).toArray)
  rw [hs2] at HZ4
  have HMz:=Hy (HMd.out.later hb4)
  have HWz:=Hy (HWd.out.below hb4 HWd.out.lt)
  have HBz:=Hy (hTr HBd hb4)
  have HBQ:=Hy hb4
  have hS4:(fun W:World=>W.cell? ⟨p.m,1,none⟩ = some (.slice (some ⟨p.go,0,none⟩) its.length its.length) ∧ W.cell? ⟨w.heap.size,0,none⟩ = some (.int .i64 (s.place:Int)) ∧ W.rangeAt p.go (s.place * 38) (encX q)) (w2.alloc (.cells (encN default).toArray 30)):=⟨cell_grown hS0.1 (grown_none hb4) (by simp),cell_grown hS0.2.1 (grown_none hb4) (by simp),fun j v hv=>cell_grown (hS0.2.2 j v hv) (grown_none hb4) (by simp)⟩
  refine hK _ _ (fun _=>hS4) ?_
  clear hK K hb4 hS0
  have hsz4:(w2.alloc (.cells (encN default).toArray 30)).heap.size = w.heap.size + 2:=by simp [hs2]
  generalize w2.alloc (.cells (encN default).toArray 30) = wz at *
  refine wpAnyK_ready (rs:=[8]) (by kernel_rfl) (by simp) ?_
  refine AllReadyK.cons (o:=_) rfl (fun K hK=>?_) AllReadyK.nil
  rw [if_pos (by rfl)]
  go_simp
  refine (HID.out wz HBz.out).mono ?_
  rintro e w3 ⟨rfl,hb3⟩
  have HM3:=Hy (HMz.out.later hb3)
  have HW3:=Hy (HWz.out.below hb3 HWz.out.lt)
  have HB3:=Hy (hTr HBz hb3)
  have HZ3:=Hy (HZ4.out.below hb3 HZ4.out.lt)
  have HBQ3:=Hy (hTr HBQ hb3)
  have hs3:=hb3.size
  have hS0:(fun W:World=>W.cell? ⟨p.m,1,none⟩ = some (.slice (some ⟨p.go,0,none⟩) its.length its.length) ∧ W.cell? ⟨w.heap.size,0,none⟩ = some (.int .i64 (s.place:Int)) ∧ W.rangeAt p.go (s.place * 38) (encX q)) w3:=⟨cell_grown hS4.1 (grown_none hb3) (by simp),cell_grown hS4.2.1 (grown_none hb3) (by simp),fun j v hv=>cell_grown (hS4.2.2 j v hv) (grown_none hb3) (by simp)⟩
  refine hK _ _ (fun _=>hS0) ?_
  clear hK K hb3 hS4 HZ4 HMz HWz HBz
  refine wpAnyK_take0 (i:=9) (oi:=⟨some 10,_,_,_,_,none⟩) (v:=.tuple #[.agg (encN id).toArray,.bool mo]) rfl (by kernel_rfl) (fun _ _ _ h=>h) (Or.inl ⟨by rfl,fun W hW=>?_⟩) (fun _=>hS0) ?_
  ·go_simp
  refine wpAnyK_take0 (i:=10) (oi:=⟨some 20,_,_,_,_,none⟩) (v:=.agg (encN id).toArray) rfl (by kernel_rfl) (fun _ _ _ h=>h) (Or.inl ⟨by rfl,fun W hW=>?_⟩) (fun _=>hS0) ?_
  ·go_simp
  refine wpAnyK_take0 (i:=11) (oi:=⟨some 21,_,_,_,_,none⟩) (v:=.bool mo) rfl (by kernel_rfl) (fun _ _ _ h=>h) (Or.inl ⟨by rfl,fun W hW=>?_⟩) (fun _=>hS0) ?_
  ·go_simp
  try simp only [Act.put]
  try go_simp
  have hg5:w3.grownBy (w3.setCells (w.heap.size + 1) 0 (encN id).toArray.toList) (some (w.heap.size + 1)):=gr_setCells (g:=w.heap.size + 1) (encN id).toArray.toList 0 _ _ (gr_refl _ _)
  have hth:w3.there (w.heap.size + 1) 0 (encN id).toArray.size:=by
   intro j hj
   rw [encN_size] at hj
   refine ⟨?_,HZ3.out.thawed _⟩
   rw [HZ3.out.at_,Array.getElem?_eq_getElem (by rw [encN_size]; omega)]
   rfl
  have HI5:Hid (Whole (w3.setCells (w.heap.size + 1) 0 (encN id).toArray.toList) (w.heap.size + 1) 30 (encN id).toArray):=by
   have h9:=whole_setCells (encN id).toArray.toList 0 _ _ HZ3.out (by have h1:=encN_len id; rw [encN_size]; simp; omega)
   rw [List.take_zero,List.nil_append] at h9
   exact h9
  have HM5:Hid (MkM F (w3.setCells (w.heap.size + 1) 0 (encN id).toArray.toList) its p mk):=by
   exact HMd.out.later (be_grown HBQ3.out hg5 (by omega) (fun j hj=>by injection hj with hj; omega))
  have HW5:=Hy (HW3.out.grown hg5 (fun e=>by injection e with e; omega))
  have HB5:=Hy (be_grown HB3.out hg5 HB3.out.size (fun j hj=>by injection hj with hj; omega))
  refine wpAnyK_ready (rs:=[13]) (by kernel_rfl) (by simp) ?_
  refine AllReadyK.cons (o:=_) rfl (fun K hK=>?_) AllReadyK.nil
  rw [if_pos (by rfl)]
  refine wp_store_mid 30 _ _ rfl (w.heap.size + 1) 0 (encN id).toArray rfl rfl hth (by rw [encN_size]; exact infoN) (encN_all id) ?_
  refine hK _ _ (fun h=>by cases h) ?_
  clear hK K hth hg5 HZ3
  generalize w3.setCells (w.heap.size + 1) 0 (encN id).toArray.toList = w5 at *
  generalize w.heap.size + 1 = g at *
  refine wpAnyK_ready (rs:=[14]) (by kernel_rfl) (by simp) ?_
  refine AllReadyK.cons (o:=_) rfl (fun K hK=>?_) AllReadyK.nil
  rw [if_pos (by rfl)]
  go_simp
  refine hK _ _ (fun h=>by cases h) ?_
  clear hK K
  refine wpAnyK_done (by kernel_rfl) ?_ _
  try simp only [Act.put]
  try go_simp
  clear HMd HWd HBd HRd hs2 HM3 HW3 HB3 hs3 HID
  obtain ⟨A1,c1,hbc,hba⟩:∃ A1 c1,w5.cell? ⟨p.gb,s.place,none⟩ = some (.slice A1 (backsTo its its.length s.place).length c1) ∧ ArgZ w5 A1 c1 (backsTo its its.length s.place):=by
   obtain ⟨vs,hv⟩:=HM5.out.backs
   obtain ⟨h1,h2,-⟩:=hv s.place hp
   exact ⟨_,_,h1,h2⟩
  obtain ⟨N,A2,c2,V,hnm,hv2,hna⟩:∃ N A2 c2 V,OwnMap w5 p.mb N V ∧ V id = .slice A2 (waits its mk.dead id).length c2 ∧ ArgZ w5 A2 c2 (waits its mk.dead id):=by
   obtain ⟨N,V,h1,h2⟩:=HM5.out.names
   exact ⟨N,_,_,_,h1,rfl,(h2 id).1⟩
  rw [← HN1.out] at hbc hba
  rw [← HN2.out] at hv2 hna
  have HBC:=Hy hbc
  have HBA:=Hy hba
  have HNM:=Hy hnm
  have HNA:=Hy hna
  clear hbc hba hnm hna
  go_upto_region 2 with fail
  refine wp_region_K (fun W=>W.cell? ⟨p.m,3,none⟩ = some (.slice (some ⟨p.gb,0,none⟩) its.length its.length) ∧ W.cell? ⟨w.heap.size,0,none⟩ = some (.int .i64 (s.place:Int)) ∧ W.cell? ⟨p.gb,s.place,none⟩ = some (.slice A1 ns1.length c1) ∧ W.cell? ⟨p.m,4,none⟩ = some (.map (some p.mb)) ∧ W.rangeAt g 0 (encN id) ∧ (Instr.lookup 113 (.map (some p.mb)) (.agg (encN id).toArray) false).run Tryz.prog W = .ok (.slice A2 ns2.length c2) W) 16 (by kernel_rfl) ?_
  change wpAnyK _ _ _ _ _ _ _ _ _ (World.drew w5)
  have hb6:=(Below.refl w5.heap.size w5).drew
  have HM6:=Hy (HM5.out.later hb6)
  have HW6:Hid (Whole (World.drew w5) w.heap.size 180 cs):=HW5.out
  have HI6:Hid (Whole (World.drew w5) g 30 (encN id).toArray):=HI5.out
  have HB6:=Hy HB5.out.drew
  have HBA6:=Hy (HBA.out.later hb6)
  have HNA6:=Hy (HNA.out.later hb6)
  have HNM6:Hid (OwnMap (World.drew w5) p.mb N V):=HNM.out.grown (grown_none hb6) (by simp)
  have hs0c:(World.drew w5).cell? ⟨p.gb,s.place,none⟩ = some (.slice A1 ns1.length c1):=HBC.out
  clear HM5 HW5 HI5 HB5 HBA HNA HNM HBC hb6
  generalize World.drew w5 = w6 at *
  have hlook:=HNM6.out.look id
  rw [hv2] at hlook
  have hS0:w6.cell? ⟨p.m,3,none⟩ = some (.slice (some ⟨p.gb,0,none⟩) its.length its.length) ∧ w6.cell? ⟨w.heap.size,0,none⟩ = some (.int .i64 (s.place:Int)) ∧ w6.cell? ⟨p.gb,s.place,none⟩ = some (.slice A1 ns1.length c1) ∧ w6.cell? ⟨p.m,4,none⟩ = some (.map (some p.mb)) ∧ w6.rangeAt g 0 (encN id) ∧ (Instr.lookup 113 (.map (some p.mb)) (.agg (encN id).toArray) false).run Tryz.prog w6 = .ok (.slice A2 ns2.length c2) w6:=⟨(HM6.out.cells.at_ 3).trans rfl,(HW6.out.at_ 0).trans K0.out,hs0c,(HM6.out.cells.at_ 4).trans rfl,whole_range HI6.out,hlook⟩
  clear hlook hs0c
  refine wpAnyK_take0 (i:=0) (oi:=⟨some 22,_,_,_,_,none⟩) (v:=.pointer (some ⟨p.m,0,none⟩)) rfl (by kernel_rfl) (fun _ _ _ h=>h) (Or.inl ⟨by rfl,fun W hW=>?_⟩) (fun _=>hS0) ?_
  ·go_simp
  refine wpAnyK_take0 (i:=1) (oi:=⟨some 23,_,_,_,_,none⟩) (v:=.pointer (some ⟨p.m,0,none⟩)) rfl (by kernel_rfl) (fun _ _ _ h=>h) (Or.inl ⟨by rfl,fun W hW=>?_⟩) (fun _=>hS0) ?_
  ·go_simp
  refine wpAnyK_take0 (i:=2) (oi:=⟨some 24,_,_,_,_,none⟩) (v:=.pointer (some ⟨p.m,3,none⟩)) rfl (by kernel_rfl) (fun _ _ _ h=>h) (Or.inl ⟨by rfl,fun W hW=>?_⟩) (fun _=>hS0) ?_
  ·go_simp
  refine wpAnyK_take (i:=3) (oi:=⟨some 25,_,_,_,_,none⟩) (v:=.slice (some ⟨p.gb,0,none⟩) its.length its.length) rfl (by kernel_rfl) (fun _ _ _ h=>h) (Or.inl ⟨by rfl,fun W hW=>?_⟩) hS0 ?_
  ·obtain ⟨s0,s1,s2,s3,s4,s5⟩:=hW
   go_simp
  refine wpAnyK_take0 (i:=4) (oi:=⟨some 26,_,_,_,_,none⟩) (v:=.pointer (some ⟨w.heap.size,0,none⟩)) rfl (by kernel_rfl) (fun _ _ _ h=>h) (Or.inl ⟨by rfl,fun W hW=>?_⟩) (fun _=>hS0) ?_
  ·go_simp
  refine wpAnyK_take (i:=5) (oi:=⟨some 27,_,_,_,_,none⟩) (v:=.int .i64 (s.place:Int)) rfl (by kernel_rfl) (fun _ _ _ h=>h) (Or.inl ⟨by rfl,fun W hW=>?_⟩) hS0 ?_
  ·obtain ⟨s0,s1,s2,s3,s4,s5⟩:=hW
   go_simp
  try simp only [Act.put]
  try go_simp
  refine wpAnyK_take0 (i:=6) (oi:=⟨some 28,_,_,_,_,none⟩) (v:=.pointer (some ⟨p.gb,s.place,none⟩)) rfl (by kernel_rfl) (fun _ _ _ h=>h) (Or.inl ⟨by rfl,fun W hW=>?_⟩) (fun _=>hS0) ?_
  ·go_simp
  refine wpAnyK_take (i:=7) (oi:=⟨some 29,_,_,_,_,none⟩) (v:=.slice A1 ns1.length c1) rfl (by kernel_rfl) (fun _ _ _ h=>h) (Or.inl ⟨by rfl,fun W hW=>?_⟩) hS0 ?_
  ·obtain ⟨s0,s1,s2,s3,s4,s5⟩:=hW
   go_simp
  refine wpAnyK_take0 (i:=8) (oi:=⟨some 30,_,_,_,_,none⟩) (v:=.pointer (some ⟨p.m,0,none⟩)) rfl (by kernel_rfl) (fun _ _ _ h=>h) (Or.inl ⟨by rfl,fun W hW=>?_⟩) (fun _=>hS0) ?_
  ·go_simp
  refine wpAnyK_take0 (i:=9) (oi:=⟨some 31,_,_,_,_,none⟩) (v:=.pointer (some ⟨p.m,0,none⟩)) rfl (by kernel_rfl) (fun _ _ _ h=>h) (Or.inl ⟨by rfl,fun W hW=>?_⟩) (fun _=>hS0) ?_
  ·go_simp
  refine wpAnyK_take0 (i:=10) (oi:=⟨some 32,_,_,_,_,none⟩) (v:=.pointer (some ⟨p.m,4,none⟩)) rfl (by kernel_rfl) (fun _ _ _ h=>h) (Or.inl ⟨by rfl,fun W hW=>?_⟩) (fun _=>hS0) ?_
  ·go_simp
  refine wpAnyK_take (i:=11) (oi:=⟨some 33,_,_,_,_,none⟩) (v:=.map (some p.mb)) rfl (by kernel_rfl) (fun _ _ _ h=>h) (Or.inl ⟨by rfl,fun W hW=>?_⟩) hS0 ?_
  ·obtain ⟨s0,s1,s2,s3,s4,s5⟩:=hW
   go_simp
  try simp only [Act.put]
  try go_simp
  refine wpAnyK_take (i:=12) (oi:=_) (v:=.agg (encN id).toArray) rfl (by kernel_rfl) (fun _ _ _ h=>h) (yieldsIf_load_mid (by rfl) _ _ rfl g (0) rfl (encN id) _ (fun W hW=>hW.2.2.2.2.1) Tryz.underlying30 rfl (infoN_l id)) hS0 ?_
  try simp only [Act.put]
  try go_simp
  refine wpAnyK_take (i:=13) (oi:=⟨some 35,_,_,_,_,none⟩) (v:=.slice A2 ns2.length c2) rfl (by kernel_rfl) (fun _ _ _ h=>h) (Or.inl ⟨by rfl,fun W hW=>?_⟩) hS0 ?_
  ·obtain ⟨s0,s1,s2,s3,s4,s5⟩:=hW
   go_simp
  try simp only [Act.put]
  try go_simp
  refine wpAnyK_ready (rs:=[14]) (by kernel_rfl) (by simp) ?_
  refine AllReadyK.cons (o:=_) rfl (fun K hK=>?_) AllReadyK.nil
  rw [if_pos (by rfl)]
  go_simp
  have HS:Hid (∀ W,Below w6.heap.size w6 W → (fun W:World=>W.cell? ⟨p.m,3,none⟩ = some (.slice (some ⟨p.gb,0,none⟩) its.length its.length) ∧ W.cell? ⟨w.heap.size,0,none⟩ = some (.int .i64 (s.place:Int)) ∧ W.cell? ⟨p.gb,s.place,none⟩ = some (.slice A1 ns1.length c1) ∧ W.cell? ⟨p.m,4,none⟩ = some (.map (some p.mb)) ∧ W.rangeAt g 0 (encN id) ∧ (Instr.lookup 113 (.map (some p.mb)) (.agg (encN id).toArray) false).run Tryz.prog W = .ok (.slice A2 ns2.length c2) W) W):=fun W hb=>⟨cell_grown hS0.1 (grown_none hb) (by simp),cell_grown hS0.2.1 (grown_none hb) (by simp),cell_grown hS0.2.2.1 (grown_none hb) (by simp),cell_grown hS0.2.2.2.1 (grown_none hb) (by simp),fun j v hv=>cell_grown (hS0.2.2.2.2.1 j v hv) (grown_none hb) (by simp),by
   have:=(HNM6.out.grown (grown_none hb) (by simp)).look id
   rw [hv2] at this
   exact this⟩
  have hb7:=(Below.refl w6.heap.size w6).alloc (Nat.le_refl _) (.cells #[.slice A1 ns1.length c1,.slice A2 ns2.length c2] 59)
  have hz7:=Whole.made w6 59 #[.slice A1 ns1.length c1,.slice A2 ns2.length c2]
  have HC:=Hy (pconcat_any w6.heap.size A1 c1 ns1 A2 c2 ns2 (w6.alloc (.cells #[.slice A1 ns1.length c1,.slice A2 ns2.length c2] 59)) ((hz7.at_ 0).trans rfl) ((hz7.at_ 1).trans rfl) (HBA6.out.later hb7) (HNA6.out.later hb7) (by omega))
  have HB7:=Hy hb7
  clear hS0 hz7 hb7
  refine hK _ _ (fun _=>HS.out _ HB7.out) ?_
  clear hK K
  refine wpAnyK_ready (rs:=[15]) (by kernel_rfl) (by simp) ?_
  refine AllReadyK.cons (o:=_) rfl (fun K hK=>?_) AllReadyK.nil
  rw [if_pos (by rfl)]
  go_simp
  refine HC.out.mono ?_
  rintro e w8 ⟨⟨A3,c3,rfl,hA3,hlo3⟩,hb8⟩
  have hs7:=HB7.out.size
  have HB8:=Hy (HB7.out.trans (hb8.mono hs7))
  have HA3:=Hy hA3
  have HLO3:Hid (∀ j,inBlk A3 j → w6.heap.size ≤ j):=fun j hj=>Nat.le_trans hs7 (hlo3 j hj)
  clear hA3 hlo3 hb8 HB7 HC hs7
  refine hK _ _ (fun _=>HS.out _ HB8.out) ?_
  clear hK K HS
  refine wpAnyK_ready (rs:=[16]) (by kernel_rfl) (by simp) ?_
  refine AllReadyK.cons (o:=_) rfl (fun K hK=>?_) AllReadyK.nil
  rw [if_pos (by rfl)]
  go_simp
  refine hK _ _ (fun h=>by cases h) ?_
  clear hK K
  refine wpAnyK_done (by kernel_rfl) ?_ _
  try simp only [Act.put]
  try go_simp
  have hmb6:p.mb < w6.heap.size:=HNM6.out.lt
  have HM8:=Hy (HM6.out.later HB8.out)
  have HW8:=Hy (HW6.out.below HB8.out HW6.out.lt)
  have HI8:=Hy (HI6.out.below HB8.out HI6.out.lt)
  have HBw8:=Hy (hTr HB6 HB8.out)
  have HNM8:=Hy (HNM6.out.grown (grown_none HB8.out) (by simp))
  clear HM6 HW6 HI6 HB6 HNM6 HBA6 HNA6 HB8
  go_upto_region 3 with fail
  refine wp_region_K (fun W=>W.cell? ⟨p.m,4,none⟩ = some (.map (some p.mb)) ∧ W.rangeAt g 0 (encN id)) 5 (by kernel_rfl) ?_
  change wpAnyK _ _ _ _ _ _ _ _ _ (World.drew w8)
  have hb9:=(Below.refl w8.heap.size w8).drew
  have HM9:=Hy (HM8.out.later hb9)
  have HW9:Hid (Whole (World.drew w8) w.heap.size 180 cs):=HW8.out
  have HI9:Hid (Whole (World.drew w8) g 30 (encN id).toArray):=HI8.out
  have HB9:=Hy HBw8.out.drew
  have HA9:=Hy (HA3.out.later hb9)
  have HNM9:Hid (OwnMap (World.drew w8) p.mb N V):=HNM8.out.grown (grown_none hb9) (by simp)
  clear HM8 HW8 HI8 HBw8 HA3 HNM8 hb9
  generalize World.drew w8 = w9 at *
  have hS0:w9.cell? ⟨p.m,4,none⟩ = some (.map (some p.mb)) ∧ w9.rangeAt g 0 (encN id):=⟨(HM9.out.cells.at_ 4).trans rfl,whole_range HI9.out⟩
  refine wpAnyK_take0 (i:=0) (oi:=⟨some 38,_,_,_,_,none⟩) (v:=.pointer (some ⟨p.m,0,none⟩)) rfl (by kernel_rfl) (fun _ _ _ h=>h) (Or.inl ⟨by rfl,fun W hW=>?_⟩) (fun _=>hS0) ?_
  ·go_simp
  refine wpAnyK_take0 (i:=1) (oi:=⟨some 39,_,_,_,_,none⟩) (v:=.pointer (some ⟨p.m,0,none⟩)) rfl (by kernel_rfl) (fun _ _ _ h=>h) (Or.inl ⟨by rfl,fun W hW=>?_⟩) (fun _=>hS0) ?_
  ·go_simp
  refine wpAnyK_take0 (i:=2) (oi:=⟨some 40,_,_,_,_,none⟩) (v:=.pointer (some ⟨p.m,4,none⟩)) rfl (by kernel_rfl) (fun _ _ _ h=>h) (Or.inl ⟨by rfl,fun W hW=>?_⟩) (fun _=>hS0) ?_
  ·go_simp
  refine wpAnyK_take (i:=3) (oi:=⟨some 41,_,_,_,_,none⟩) (v:=.map (some p.mb)) rfl (by kernel_rfl) (fun _ _ _ h=>h) (Or.inl ⟨by rfl,fun W hW=>?_⟩) hS0 ?_
  ·obtain ⟨s0,s1⟩:=hW
   go_simp
  try simp only [Act.put]
  try go_simp
  refine wpAnyK_take (i:=4) (oi:=_) (v:=.agg (encN id).toArray) rfl (by kernel_rfl) (fun _ _ _ h=>h) (yieldsIf_load_mid (by rfl) _ _ rfl g (0) rfl (encN id) _ (fun W hW=>hW.2) Tryz.underlying30 rfl (infoN_l id)) hS0 ?_
  try simp only [Act.put]
  try go_simp
  refine wpAnyK_ready (rs:=[5]) (by kernel_rfl) (by simp) ?_
  refine AllReadyK.cons (o:=_) rfl (fun K hK=>?_) AllReadyK.nil
  rw [if_pos (by rfl)]
  refine wp_delN _ _ rfl p.mb N V id rfl rfl HNM9.out (fun w10 hdl hgr=>?_)
  have HM10:=Hy (HM9.out.del id hgr hdl)
  have hR10:∀ j,some p.mb = some j → w.heap.size ≤ j ∨ p.R j:=fun j hj=>by injection hj with hj; exact .inr (.inr (.inr hj.symm))
  have HAL10:=Hy ((Alt.of_below (R:=p.R) HB9.out).grown hgr hR10)
  have HA10:=Hy (HA9.out.grown hgr (fun j hj _ e=>by injection e with e; have:=HLO3.out j hj; omega))
  have hmw:p.mb ≠ w.heap.size:=by
   intro e
   obtain ⟨N9,V9,h9,-⟩:=HMW.out
   have:=h9.lt
   omega
  have HW10:=Hy (HW9.out.grown hgr (fun e=>by injection e with e; exact hmw e.symm))
  have e1:w10.cell? ⟨w.heap.size,1,none⟩ = some (.int .i64 s.kind):=(HW10.out.at_ 1).trans K1.out
  clear HM9 HW9 HI9 HB9 HA9 HNM9 hdl hgr hR10 hmw hS0
  refine hK _ _ (fun h=>by cases h) ?_
  clear hK K
  refine wpAnyK_done (by kernel_rfl) ?_ _
  try simp only [Act.put]
  try go_simp
  go_wp2_with fail
  have hso:=pstepsof_any A3 c3 (ns1 ++ ns2) s.kind b w10 HA10.out (by rw [List.length_append]; omega)
  rw [List.length_append] at hso
  with_reducible refine hso.mono ?_
  rintro e w11 ⟨⟨v,rfl,hown⟩,hb11⟩
  have HOW:=Hy (own_weak hown (show w.heap.size ≤ w10.heap.size from HAL10.out.size))
  have HM11:=Hy (HM10.out.later hb11)
  have HAL11:=Hy (HAL10.out.below hb11)
  clear hown hb11 HM10 HAL10 HA10
  go_wp2
  go_ret
  exact ⟨⟨v,rfl,HOW.out⟩,HAL11.out,HM11.out⟩
end Go.Proofs.YtlfmooihcigolaaGreatDoor
