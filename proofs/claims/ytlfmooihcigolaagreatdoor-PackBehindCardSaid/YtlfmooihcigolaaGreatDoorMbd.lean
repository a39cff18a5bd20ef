/-
  ComQ.
-/
import Derived.Test.YtlfmooihcigolaaGreatDoorMbc
set_option maxRecDepth 100000
set_option maxHeartbeats 8000000
namespace Go.Proofs.YtlfmooihcigolaaGreatDoor
open Go.RowKit
theorem encC_set32 (A:Option Addr) (c:Nat) (A':Option Addr) (c':Nat) (x:Cm) (ps:List Nm):(encC A c x).toArray.setIfInBounds 32 (.slice A' ps.length c') = (encC A' c' ⟨x.tree,ps,x.time,x.note⟩).toArray:=by
 apply Array.ext'
 simp only [Array.toList_setIfInBounds,encC]
 rw [List.set_append_right _ _ (by rw [encN_len]; exact Nat.le_refl _),encN_len]
 rfl
theorem encC_set33 (A:Option Addr) (c:Nat) (x:Cm) (t:Nat):(encC A c x).toArray.setIfInBounds 33 (.float .f64 t) = (encC A c ⟨x.tree,x.parents,t,x.note⟩).toArray:=by
 apply Array.ext'
 simp only [Array.toList_setIfInBounds,encC]
 rw [List.set_append_right _ _ (by rw [encN_len]; decide),encN_len]
 rfl
theorem encC_set34 (A:Option Addr) (c:Nat) (x:Cm) (n:List UInt8):(encC A c x).toArray.setIfInBounds 34 (.string ⟨n.toArray⟩) = (encC A c ⟨x.tree,x.parents,x.time,n⟩).toArray:=by
 apply Array.ext'
 simp only [Array.toList_setIfInBounds,encC]
 rw [List.set_append_right _ _ (by rw [encN_len]; decide),encN_len]
 rfl
theorem encC_s (A:Option Addr) (c:Nat) (x:Cm):(encC A c x).toArray.size = 35:=by rw [List.size_toArray,encC_len]
theorem encC_all (A:Option Addr) (c:Nat) (x:Cm):(encC A c x).toArray.all (·.oneCell') = true:=all_oneCell_toArray (encC_one A c x)
theorem whole_over {g:Nat} {t:TypeId}:∀ (vs:List Value) (o:Nat) (w:World) (cs:Array Value),Whole w g t cs → o + vs.length ≤ cs.size → Whole (w.setCells g o vs) g t (cs.toList.take o ++ vs ++ cs.toList.drop (o + vs.length)).toArray
 | [],o,w,cs,h,_=>by
  show Whole w g t _
  have e:(cs.toList.take o ++ [] ++ cs.toList.drop (o + ([]:List Value).length)).toArray = cs:=by simp
  rw [e]
  exact h
 | v :: vs,o,w,cs,h,hl=>by
  rw [World.setCells]
  rw [List.length_cons] at hl
  have h2:=whole_over vs (o + 1) _ _ (h.put o v) (by simp; omega)
  have e:((cs.setIfInBounds o v).toList.take (o + 1) ++ vs ++ (cs.setIfInBounds o v).toList.drop (o + 1 + vs.length)) = cs.toList.take o ++ (v :: vs) ++ cs.toList.drop (o + (v :: vs).length):=by
   have ho:o < cs.toList.length:=by simp; omega
   rw [Array.toList_setIfInBounds,List.take_set,List.take_succ_eq_append_getElem ho,List.set_append_right _ _ (by simp; omega),List.drop_set,if_pos (by omega)]
   have:o - (cs.toList.take o).length = 0:=by simp; omega
   rw [this]
   simp [Nat.add_assoc,Nat.add_comm 1]
  rw [e] at h2
  exact h2
theorem encC_tree0 (tr:Nm):((encC none 0 noC).take 0 ++ encN tr ++ (encC none 0 noC).drop (0 + (encN tr).length)) = encC none 0 ⟨tr,[],0,[]⟩:=by
 rw [encN_len,List.take_zero,List.nil_append]
 rfl
theorem hgo_lt:∀ (l:List UInt8) (z v:Nat),hgo z l = some v → v < (z + 1) * 16 ^ l.length
 | [],z,v,h=>by
  injection h with h
  simp
  omega
 | c :: l,z,v,h=>by
  unfold hgo at h
  by_cases hn:hval c < 0
  ·rw [if_pos hn] at h
   cases h
  ·rw [if_neg hn] at h
   have h1:=hgo_lt l _ v h
   have h2:=hval_lt c
   have h3:(z * 16 + (hval c).toNat + 1) ≤ (z + 1) * 16:=by omega
   rw [List.length_cons,Nat.pow_succ]
   have h4:=Nat.mul_le_mul_right (16 ^ l.length) h3
   have h5:(z + 1) * 16 * 16 ^ l.length = (z + 1) * (16 ^ l.length * 16):=by rw [Nat.mul_assoc,Nat.mul_comm 16]
   omega
theorem timV_lt (tx:List UInt8) (t:Nat) (h:timV tx = some t):t < 18446744073709551616:=by
 unfold timV at h
 split at h
 ·injection h with h
  subst h
  unfold getV
  split
  ·rename_i h16
   unfold getE
   cases hg:hgo 0 (behind tx whenW) with
   | none=>simp [getO]
   | some v=>
    have h1:=hgo_lt _ _ _ hg
    rw [h16] at h1
    simp only [getO,ofV]
    split
    ·simpa using h1
    ·decide
  ·decide
 ·cases h
theorem hpfx_any (tx:List UInt8) (w:World):Calls Tryz.prog 235 #[.string ⟨tx.toArray⟩,.string ⟨#[112,97,114,101,110,116,32]⟩] w fun e w'=>e = .returned (.bool (starts tx parW)) ∧ w = w':=by
 refine (Tryz.strings_HasPrefix ⟨tx.toArray⟩ ⟨#[112,97,114,101,110,116,32]⟩ w).mono ?_
 rintro e w' ⟨rfl,rfl⟩
 exact ⟨rfl,rfl⟩
theorem ArgN.grown {w w':World} {A:Option Addr} {c:Nat} {ids:List Nm} {row:Option Nat} (h:ArgN w A c ids) (hg:w.grownBy w' row) (hn:∀ j,inBlk A j → 0 < ids.length → some j ≠ row):ArgN w' A c ids:=by
 have h':=h
 obtain ⟨h1,h2,h3,h4⟩:=h
 refine ⟨h1,h2,h3,fun h0=>?_⟩
 obtain ⟨b,o,e,hr⟩:=h4 h0
 have hk:=hg.block b (h'.lt ⟨_,e,rfl⟩ h0) (hn b ⟨_,e,rfl⟩ h0)
 refine ⟨b,o,e,fun i hi j v hv=>?_⟩
 have:=hr i hi j v hv
 unfold World.cell? at *
 dsimp only at *
 rw [hk]
 exact this
theorem Alt.belowB {R:Nat → Prop} {w w' w'':World} {B:Nat} (h:Alt R w w') (k:Below B w' w'') (hB:w.heap.size ≤ B):Alt R w w'':=
 ⟨k.os.trans h.os,k.tape.trans h.tape,k.output.trans h.output,Nat.le_trans h.size k.size,fun i hi hn=>(k.block i (by omega)).trans (h.block i hi hn)⟩
theorem parGo_in (acc:List Nm) (tx rest:List UInt8) (h:acc.length < 4) (hst:starts tx parW = true):parGo (5 - acc.length) tx rest acc = (match idV tx parW with
    | some x=>
     match lineV rest with
     | some p=>parGo (5 - (acc ++ [x]).length) p.1 p.2 (acc ++ [x])
     | none=>none
    | none=>none):=by
 obtain ⟨f,hf⟩:∃ f,5 - acc.length = f + 1:=⟨4 - acc.length,by omega⟩
 rw [hf]
 unfold parGo
 rw [if_pos hst,if_pos h]
 cases idV tx parW with
 | none=>rfl
 | some x=>
  dsimp only
  rw [show 5 - (acc ++ [x]).length = f by rw [List.length_append,List.length_singleton]; omega]
  cases lineV rest <;> first | rfl | (cases f <;> rfl)
theorem parGo_full (acc:List Nm) (tx rest:List UInt8) (h:¬ acc.length < 4) (h5:acc.length ≤ 4) (hst:starts tx parW = true):parGo (5 - acc.length) tx rest acc = none:=by
 rw [show 5 - acc.length = 0 + 1 by omega]
 unfold parGo
 rw [if_pos hst,if_neg h]
theorem parGo_out (acc:List Nm) (tx rest:List UInt8) (h5:acc.length ≤ 4) (hst:starts tx parW = false):parGo (5 - acc.length) tx rest acc = some (acc,tx,rest):=by
 obtain ⟨f,hf⟩:∃ f,5 - acc.length = f + 1:=⟨4 - acc.length,by omega⟩
 rw [hf]
 unfold parGo
 rw [if_neg (by rw [hst]; decide)]
theorem read_any (b:Nat) (s:List UInt8) (w:World) (h:Rd w b s) (hl:s.length ≤ 1048576) :
  Calls Tryz.prog 196 #[.pointer (some ⟨b,0,none⟩)] w fun r w'=>(∃ x A c,readC s = some x ∧ r = .returned (.agg (encC A c x).toArray) ∧ Alt (· = b) w w' ∧ ArgN w' A c x.parents ∧ (∀ j,inBlk A j → w.heap.size ≤ j) ∧ OwnB w' A) ∨ (readC s = none ∧ Fell (· = b) w r w'):=by
 have hbl:b < w.heap.size:=h.lt
 have HRC:Hid (readC s = (match lineV s with
  | none=>none
  | some p0=>
   match idV p0.1 treeW with
   | none=>none
   | some tr=>
    match lineV p0.2 with
    | none=>none
    | some p1=>
     match parGo 5 p1.1 p1.2 [] with
     | none=>none
     | some q=>
      match timV q.2.1 with
      | none=>none
      | some tm=>
       match lineV q.2.2 with
       | none=>none
       | some p2=>if p2.1 = [] then (if mayC ⟨tr,q.1,tm,p2.2⟩ then some ⟨tr,q.1,tm,p2.2⟩ else none) else none)):=rfl
 have HR0:=Hy fun z=>Whole.past (Whole.past h (.cells z 47)) (.cells z 47)
 have HB0:=Hy fun z=>((Alt.refl (· = b) w).alloc (.cells z 47)).alloc (.cells z 47)
 have HG0:=Hy fun z=>Whole.past (Whole.made w 47 z) (.cells z 47)
 have HG1:Hid (∀ z,Whole ((w.alloc (.cells z 47)).alloc (.cells z 47)) (w.heap.size + 1) 47 z):=by
  intro z
  have:=Whole.made (w.alloc (.cells z 47)) 47 z
  simpa using this
 have HID:=Hy (fun tx W=>cid_opt tx [116,114,101,101,32] W)
 clear h
 go_enter Tryz.func196,Tryz.ntmps196
 go_wp2_with fail
 obtain ⟨z,hz⟩:∃ z:Array Value,z = (encC none 0 noC).toArray:=⟨_,rfl⟩
 rw [show (#[Value.int .u8 0,Z8,Z8,Z8,Z8,Z8,Z8,Z8,Z8,Z8,Z8,Z8,Z8,Z8,Z8,Z8,Z8,Z8,Z8,Z8,Z8,Z8,Z8,Z8,Z8,Z8,Z8,Z8,Z8,Z8,Z8,Z8,.slice none 0 0,Value.float FloatKind.f64 0,.string ⟨#[]⟩]:Array Value) = z from hz.symm]
 have hR:=HR0.out z
 have hB:=HB0.out z
 have hG0:=HG0.out z
 have hG1:=HG1.out z
 have HZ:=Hy hz
 have hzs:z.size = 35:=by rw [hz]; exact encC_s _ _ _
 have HZS:=Hy hzs
 have hs0:((w.alloc (.cells z 47)).alloc (.cells z 47)).heap.size = w.heap.size + 2:=by simp
 clear hz hzs HR0 HB0 HG0 HG1
 generalize (w.alloc (.cells z 47)).alloc (.cells z 47) = w0 at *
 have HB:=Hy hB
 have HG0:=Hy hG0
 have HG1:=Hy hG1
 clear hB hG0 hG1
 refine (rdline_any b s _ hR).mono ?_
 rintro e w1 (⟨t0,r0,hv0,rfl,ha,hr⟩ | ⟨hv0,cc,hcc,rfl,ha⟩)
 case inr=>
  exact ⟨rfl,.inr ⟨by rw [HRC.out,hv0],cc,hcc,rfl,HB.out.trans ha⟩⟩
 have HV0:=Hy hv0
 have HL0:Hid (r0.length ≤ 1048576):=by have:=lineV_less s t0 r0 hv0; show _ ≤ _; omega
 have HB1:=Hy (HB.out.trans ha)
 have HG01:=Hy (HG0.out.alt ha (by omega))
 have HG11:=Hy (HG1.out.alt ha (by omega))
 have HR1:=Hy hr
 have hs1:w.heap.size + 2 ≤ w1.heap.size:=by have:=ha.size; omega
 clear hR ha hr hv0 HB HG0 HG1 hs0
 go_wp2_with fail
 refine (HID.out t0 _).mono ?_
 rintro e w2 ⟨(⟨tr,hi0,rfl⟩ | ⟨hi0,rfl⟩),hb⟩
 case inr=>
  exact ⟨rfl,.inr ⟨by rw [HRC.out,HV0.out]; dsimp only; rw [show idV t0 treeW = none from hi0],1,by decide,rfl,HB1.out.below hb⟩⟩
 have HI0:Hid (idV t0 treeW = some tr):=hi0
 have HB2:=Hy (HB1.out.below hb)
 have HG02:=Hy (HG01.out.below hb HG01.out.lt)
 have hG12:=HG11.out.below hb HG11.out.lt
 have HR2:=Hy (Whole.below HR1.out hb HR1.out.lt)
 have hs2:w.heap.size + 2 ≤ w2.heap.size:=by have:=hb.size; omega
 have HXI:=Hy (infoXs tr)
 have HTH:Hid (w2.there (w.heap.size + 1) 0 (encN tr).toArray.size):=by
  intro j hj
  rw [encN_size] at hj
  refine ⟨?_,hG12.thawed _⟩
  rw [Nat.zero_add,hG12.at_,Array.getElem?_eq_getElem (by rw [HZS.out]; omega)]
  rfl
 have HB3:Hid (Alt (· = b) w (w2.setCells (w.heap.size + 1) 0 (encN tr).toArray.toList)):=Alt.grown HB2.out (gr_setCells (g:=w.heap.size + 1) _ 0 w2 w2 (gr_refl _ _)) (fun j hj=>by injection hj with hj; exact .inl (by omega))
 have HG03:Hid (Whole (w2.setCells (w.heap.size + 1) 0 (encN tr).toArray.toList) w.heap.size 47 z):=Whole.grown HG02.out (gr_setCells (g:=w.heap.size + 1) _ 0 w2 w2 (gr_refl _ _)) (fun e=>by injection e with e; omega)
 have HR3:Hid (Rd (w2.setCells (w.heap.size + 1) 0 (encN tr).toArray.toList) b r0):=Whole.grown HR2.out (gr_setCells (g:=w.heap.size + 1) _ 0 w2 w2 (gr_refl _ _)) (fun e=>by injection e with e; omega)
 have HG13:Hid (Whole (w2.setCells (w.heap.size + 1) 0 (encN tr).toArray.toList) (w.heap.size + 1) 47 (encC none 0 ⟨tr,[],0,[]⟩).toArray):=by
  show Whole _ _ _ _
  have h9:=whole_over (encN tr).toArray.toList 0 w2 z hG12 (by have:=encN_len tr; rw [HZS.out]; simp; omega)
  rw [HZ.out] at h9
  rw [← encC_tree0 tr]
  exact h9
 have hs3:w.heap.size + 2 ≤ (w2.setCells (w.heap.size + 1) 0 (encN tr).toArray.toList).heap.size:=by have:=(gr_setCells (g:=w.heap.size + 1) (encN tr).toArray.toList 0 w2 w2 (gr_refl _ _)).size; omega
 clear hb hG12 hi0 HB1 HG01 HG11 HR1 HG02 HR2 HB2
 go_wp2_with (refine wpList_store_mid rfl 30 _ _ rfl (w.heap.size + 1) 0 (encN tr).toArray rfl rfl HTH.out HXI.out (encN_all tr) ?_; generalize w2.setCells (w.heap.size + 1) 0 (encN tr).toArray.toList = w3 at *)
 refine (rdline_any b r0 _ HR3.out).mono ?_
 rintro e w4 (⟨t1,r1,hv1,rfl,ha,hr⟩ | ⟨hv1,cc,hcc,rfl,ha⟩)
 case inr=>
  exact ⟨rfl,.inr ⟨by rw [HRC.out,HV0.out]; dsimp only; rw [HI0.out]; dsimp only; rw [hv1],cc,hcc,rfl,HB3.out.trans ha⟩⟩
 have HV1:=Hy hv1
 have hl1:r1.length ≤ 1048576:=by have:=lineV_less r0 t1 r1 hv1; have:=HL0.out; omega
 have HB4:=Hy (HB3.out.trans ha)
 have HG04:=Hy (HG03.out.alt ha (by omega))
 have HG14:=Hy (HG13.out.alt ha (by omega))
 have HR4:=Hy hr
 have hs4:w.heap.size + 2 ≤ w4.heap.size:=by have:=ha.size; omega
 have HRC2:Hid (readC s = (match parGo 5 t1 r1 [] with
  | none=>none
  | some q=>
   match timV q.2.1 with
   | none=>none
   | some tm=>
    match lineV q.2.2 with
    | none=>none
    | some p2=>if p2.1 = [] then (if mayC ⟨tr,q.1,tm,p2.2⟩ then some ⟨tr,q.1,tm,p2.2⟩ else none) else none)):=by
  show _ = _
  rw [HRC.out,HV0.out]
  dsimp only
  rw [HI0.out]
  dsimp only
  rw [HV1.out]
 clear ha hr hv1 HB3 HG03 HG13 HR3 hs3 HRC HV0 HI0 HV1 HTH HXI
 have HPX:=Hy (fun tx W=>hpfx_any tx W)
 have HIDQ:=Hy (fun tx W=>cid_opt tx [112,97,114,101,110,116,32] W)
 go_wp2
 go_loopg [4] 4 (fun g s4 wr=>∃ (tx rest:List UInt8) (acc:List Nm) (A0:Option Addr) (c0:Nat),s4 = .string ⟨tx.toArray⟩ ∧ acc.length ≤ 4 ∧ 4 - acc.length ≤ g ∧ wr.ownsRow (w.heap.size + 2) 30 32 (.slice A0 acc.length c0) acc.length (acc.flatMap encN) ∧ Hid (Whole wr (w.heap.size + 1) 47 (encC A0 c0 ⟨tr,acc,0,[]⟩).toArray) ∧ Hid (Whole wr w.heap.size 47 z) ∧ Hid (Alt (· = b) w wr) ∧ w.heap.size + 2 ≤ wr.heap.size ∧ Hid (Rd wr b rest) ∧ rest.length ≤ 1048576 ∧ Hid (parGo (5 - acc.length) tx rest acc = parGo 5 t1 r1 []))
 case atStart=>exact ⟨t1,r1,[],none,0,rfl,by decide,by decide,by simpa using World.ownsRow_nil _ _ _ _,HG14,HG04,HB4,hs4,HR4,hl1,Hy rfl⟩
 case round=>
  obtain ⟨tx,rest,acc,A0,c0,rfl,hac,hg,hown,hg1,hg0,hal,hsz,hrd,hrl,hgo⟩:=hrel
  have c32:wr.cell? ⟨w.heap.size + 1,32,none⟩ = some (.slice A0 acc.length c0):=(hg1.out.at_ 32).trans (encC_32 A0 c0 ⟨tr,acc,0,[]⟩)
  have HPXX:=Hy (HPX.out tx)
  cases hst:starts tx parW with
  | true=>
   rw [hst] at HPXX
   by_cases hlt:acc.length < 4
   ·have hd4:decide ((acc.length:Int) < 4) = true:=by simp; omega
    have HGX:=Hy (parGo_in acc tx rest hlt hst)
    cases hix:idV tx parW with
    | none=>
     have HNO:Hid (readC s = none):=by show _ = _; rw [HRC2.out,← hgo.out,HGX.out,hix]
     have HIDP:Hid (∀ W,Calls Tryz.prog 233 #[.string ⟨tx.toArray⟩,.string ⟨#[112,97,114,101,110,116,32]⟩] W fun e w'=>e = .panicked (fault 1) ∧ Below W.heap.size W w'):=by
      intro W
      refine (HIDQ.out tx W).mono ?_
      rintro e w' ⟨(⟨x,hx,-⟩ | ⟨-,he⟩),hb⟩
      ·rw [show idV tx [112,97,114,101,110,116,32] = none from hix] at hx
       cases hx
      ·exact ⟨he,hb⟩
     clear hix hst
     go_wp2_with (first
      | (go_at_call 235; refine (HPXX.out _).mono ?_; rintro e w' ⟨rfl,rfl⟩)
      | (go_at_call 78; refine (must_yes _ _).mono ?_; rintro e w' ⟨rfl,rfl⟩))
     refine wp_region_any (by kernel_rfl) ?_
     change wpAny _ _ _ _ _ _ _ (World.drew _)
     have cd:(World.drew wr).cell? ⟨w.heap.size + 1,32,none⟩ = some (.slice A0 acc.length c0):=c32
     refine wpAny_take (i:=0) (oi:=⟨some 18,_,_,_,_,none⟩) (v:=.pointer (some ⟨w.heap.size + 1,32,none⟩)) rfl (by kernel_rfl) (by kernel_rfl) (by kernel_rfl) (fun _ _ _ h=>h) (Or.inl ⟨by rfl,fun W=>?_⟩) ?_
     ·go_simp
     refine wpAny_take (i:=2) (oi:=⟨some 20,_,_,_,_,none⟩) (v:=.string ⟨tx.toArray⟩) rfl (by kernel_rfl) (by kernel_rfl) (by kernel_rfl) (fun _ _ _ h=>h) (Or.inl ⟨by rfl,fun W=>?_⟩) ?_
     ·go_simp
     simp only [Act.put]
     go_simp
     refine wpAny_ready (rs:=[1,3]) (by kernel_rfl) (by simp) ?_
     refine AllReady.cons (o:=_) rfl (fun K hK=>?_) (AllReady.cons (o:=_) rfl (fun K hK=>?_) (AllReady.nil))
     ·rw [if_pos (by rfl)]
      go_simp
      refine hK _ _ ?_
      clear hK K
      refine wpAny_ready (rs:=[3]) (by kernel_rfl) (by simp) ?_
      refine AllReady.cons (o:=_) rfl (fun K hK=>?_) (AllReady.nil)
      ·rw [if_pos (by rfl)]
       go_simp
       refine (HIDP.out _).mono ?_
       rintro e w5 ⟨rfl,hb⟩
       exact ⟨rfl,.inr ⟨HNO.out,1,by decide,rfl,hal.out.below ⟨hb.os,hb.tape,hb.output,hb.size,hb.block⟩⟩⟩
     ·rw [if_pos (by rfl)]
      go_simp
      refine (HIDP.out _).mono ?_
      rintro e w5 ⟨rfl,hb⟩
      exact ⟨rfl,.inr ⟨HNO.out,1,by decide,rfl,hal.out.below ⟨hb.os,hb.tape,hb.output,hb.size,hb.block⟩⟩⟩
    | some x=>
     have HGI:Hid (parGo (5 - acc.length) tx rest acc = (match lineV rest with
      | some p=>parGo (5 - (acc ++ [x]).length) p.1 p.2 (acc ++ [x])
      | none=>none)):=by show _ = _; rw [HGX.out,hix]
     have HIDP:Hid (∀ W,Calls Tryz.prog 233 #[.string ⟨tx.toArray⟩,.string ⟨#[112,97,114,101,110,116,32]⟩] W fun e w'=>e = .returned (.agg (encN x).toArray) ∧ Below W.heap.size W w'):=by
      intro W
      refine (HIDQ.out tx W).mono ?_
      rintro e w' ⟨(⟨y,hx,he⟩ | ⟨hx,-⟩),hb⟩
      ·rw [show idV tx [112,97,114,101,110,116,32] = some x from hix] at hx
       injection hx with hx
       subst hx
       exact ⟨he,hb⟩
      ·rw [show idV tx [112,97,114,101,110,116,32] = some x from hix] at hx
       cases hx
     clear hix hst HGX
     go_wp2_with (first
      | (go_at_call 235; refine (HPXX.out _).mono ?_; rintro e w' ⟨rfl,rfl⟩)
      | (go_at_call 78; refine (must_yes _ _).mono ?_; rintro e w' ⟨rfl,rfl⟩))
     refine wp_region_any (by kernel_rfl) ?_
     change wpAny _ _ _ _ _ _ _ (World.drew _)
     have cd:(World.drew wr).cell? ⟨w.heap.size + 1,32,none⟩ = some (.slice A0 acc.length c0):=c32
     refine wpAny_take (i:=0) (oi:=⟨some 18,_,_,_,_,none⟩) (v:=.pointer (some ⟨w.heap.size + 1,32,none⟩)) rfl (by kernel_rfl) (by kernel_rfl) (by kernel_rfl) (fun _ _ _ h=>h) (Or.inl ⟨by rfl,fun W=>?_⟩) ?_
     ·go_simp
     refine wpAny_take (i:=2) (oi:=⟨some 20,_,_,_,_,none⟩) (v:=.string ⟨tx.toArray⟩) rfl (by kernel_rfl) (by kernel_rfl) (by kernel_rfl) (fun _ _ _ h=>h) (Or.inl ⟨by rfl,fun W=>?_⟩) ?_
     ·go_simp
     simp only [Act.put]
     go_simp
     refine wpAny_ready (rs:=[1,3]) (by kernel_rfl) (by simp) ?_
     refine AllReady.cons (o:=_) rfl (fun K hK=>?_) (AllReady.cons (o:=_) rfl (fun K hK=>?_) (AllReady.nil))
     ·rw [if_pos (by rfl)]
      go_simp
      refine hK _ _ ?_
      clear hK K
      refine wpAny_ready (rs:=[3]) (by kernel_rfl) (by simp) ?_
      refine AllReady.cons (o:=_) rfl (fun K hK=>?_) (AllReady.nil)
      ·rw [if_pos (by rfl)]
       go_simp
       refine (HIDP.out _).mono ?_
       rintro e w5 ⟨rfl,hb⟩
       have hb5:Below wr.heap.size wr w5:=⟨hb.os,hb.tape,hb.output,hb.size,hb.block⟩
       have c5:w5.cell? ⟨w.heap.size + 1,32,none⟩ = some (.slice A0 acc.length c0):=(hb5.cell (p:=⟨w.heap.size + 1,32,none⟩) (by show w.heap.size + 1 < _; omega)).trans c32
       have c6:(w5.alloc (.cells (encN x).toArray 30)).cell? ⟨w.heap.size + 1,32,none⟩ = some (.slice A0 acc.length c0):=(World.cell?_alloc_some _ _ _ (by rw [c5]; rfl)).trans c5
       have hsw:=hb5.size
       clear hb
       refine hK _ _ ?_
       clear hK K
       refine wpAny_ready (rs:=[4]) (by kernel_rfl) (by simp) ?_
       refine AllReady.cons (o:=_) rfl (fun K hK=>?_) (AllReady.nil)
       ·rw [if_pos (by rfl)]
        refine wp_buildN _ rfl x rfl ?_
        refine hK _ _ ?_
        clear hK K
        refine wpAny_ready (rs:=[5]) (by kernel_rfl) (by simp) ?_
        refine AllReady.cons (o:=_) rfl (fun K hK=>?_) (AllReady.nil)
        ·rw [if_pos (by rfl)]
         refine wp_appendN _ _ rfl (w.heap.size + 2) (.slice A0 acc.length c0) acc rfl (own_later (own_later hown hb5) ((Below.refl w5.heap.size w5).alloc (Nat.le_refl _) (.cells (encN x).toArray 30))) (some ⟨w5.heap.size,0,none⟩) 1 1 [x] rfl rfl (arg_one (Whole.made w5 30 (encN x).toArray)) (by simp; omega) (by simp; omega) (fun v' w6 hown' hb6=>?_)
         obtain ⟨A',c',rfl,-⟩:=own_arg hown'
         have hb2:Below (w.heap.size + 2) wr w6:=((hb5.mono hsz).alloc (by omega) (.cells (encN x).toArray 30)).trans hb6
         have hw6:=hg1.out.below hb2 (by omega)
         have c7:w6.cell? ⟨w.heap.size + 1,32,none⟩ = some (.slice A0 acc.length c0):=(hw6.at_ 32).trans (encC_32 A0 c0 ⟨tr,acc,0,[]⟩)
         have f7:=hw6.thawed 32
         have HOW:=Hy (hown'.kept (gr_set (a:=w6) (w:=w6) (row:=some (w.heap.size + 1)) (gr_refl _ _) (p:=⟨w.heap.size + 1,32,none⟩) (.inl rfl) (.slice A' (acc ++ [x]).length c')) (by
          cases hq:(Value.slice A' (acc ++ [x]).length c').ownBlock with
          | none=>exact .inl rfl
          | some r=>
           refine .inr (fun e=>?_)
           have h1:=(hown'.lt r hq).1
           injection e with e
           omega))
         have hw7:=hw6.put 32 (.slice A' (acc ++ [x]).length c')
         rw [encC_set32] at hw7
         have HG17:=Hy hw7
         have HG07:=Hy (Whole.aside (hg0.out.below hb2 (by omega)) (p:=⟨w.heap.size + 1,32,none⟩) (by simp) (.slice A' (acc ++ [x]).length c'))
         have HR7:Hid (Rd (w6.setCell ⟨w.heap.size + 1,32,none⟩ (.slice A' (acc ++ [x]).length c')) b rest):=Whole.aside (Whole.below hrd.out hb2 (by omega)) (p:=⟨w.heap.size + 1,32,none⟩) (by simp; omega) _
         have HAL7:=Hy ((hal.out.belowB hb2 (by omega)).set (p:=⟨w.heap.size + 1,32,none⟩) (.inr (by simp)) (.slice A' (acc ++ [x]).length c'))
         have hs7:w.heap.size + 2 ≤ (w6.setCell ⟨w.heap.size + 1,32,none⟩ (.slice A' (acc ++ [x]).length c')).heap.size:=by have:=hb2.size; simp; omega
         have HLX:Hid ((acc ++ [x]).length = acc.length + 1):=by show _ = _; rw [List.length_append,List.length_singleton]
         have hax:(acc ++ [x]).length ≤ 4:=by rw [List.length_append]; simp; omega
         generalize acc ++ [x] = acc2 at *
         refine hK _ _ ?_
         clear hK K
         refine wpAny_ready (rs:=[6]) (by kernel_rfl) (by simp) ?_
         refine AllReady.cons (o:=_) rfl (fun K hK=>?_) (AllReady.nil)
         ·rw [if_pos (by rfl)]
          go_simp
          refine hK _ _ ?_
          clear hK K
          refine wpAny_ready (rs:=[7]) (by kernel_rfl) (by simp) ?_
          refine AllReady.cons (o:=_) rfl (fun K hK=>?_) (AllReady.nil)
          ·rw [if_pos (by rfl)]
           go_simp
           refine hK _ _ ?_
           clear hK K
           clear hb5 hb6 hb2 hw6 hw7 hown' c7 f7 c5 c6 c32 hown
           generalize w6.setCell ⟨w.heap.size + 1,32,none⟩ (.slice A' acc2.length c') = w7 at *
           refine wpAny_done (by kernel_rfl) ?_ _
           go_wp2_with fail
           refine (rdline_any b rest _ HR7.out).mono ?_
           rintro e w8 (⟨t8,r8,hv8,rfl,ha,hr⟩ | ⟨hv8,cc,hcc,rfl,ha⟩)
           case inr=>
            exact ⟨rfl,.inr ⟨by rw [HRC2.out,← hgo.out,HGI.out,hv8],cc,hcc,rfl,HAL7.out.trans ha⟩⟩
           have HGO8:Hid (parGo (5 - acc2.length) t8 r8 acc2 = parGo 5 t1 r1 []):=by show _ = _; rw [← hgo.out,HGI.out,hv8]
           have hl8:r8.length ≤ 1048576:=by have:=lineV_less rest t8 r8 hv8; omega
           have HOW8:=Hy (HOW.out.kept (row:=some b) ⟨ha.os,ha.tape,ha.output,ha.size,fun k hk hn=>ha.block k hk (fun e=>hn (by rw [e]))⟩ (by
            cases hq:(Value.slice A' acc2.length c').ownBlock with
            | none=>exact .inl rfl
            | some r=>
             refine .inr (fun e=>?_)
             have h1:=(HOW.out.lt r hq).1
             injection e with e
             omega))
           have HG18:=Hy (HG17.out.alt ha (by omega))
           have HG08:=Hy (HG07.out.alt ha (by omega))
           have HAL8:=Hy (HAL7.out.trans ha)
           have HR8:=Hy hr
           have hs8:w.heap.size + 2 ≤ w8.heap.size:=by have:=ha.size; omega
           clear ha hr hv8 HOW HG17 HG07 HAL7 HR7
           go_wp2
           go_roundg (4 - acc2.length)
           case measure=>have:=HLX.out; omega
           case rel=>exact ⟨t8,r8,acc2,A',c',rfl,hax,Nat.le_refl _,HOW8.out,HG18,HG08,HAL8,hs8,HR8,hl8,HGO8⟩
     ·rw [if_pos (by rfl)]
      go_simp
      refine (HIDP.out _).mono ?_
      rintro e w5 ⟨rfl,hb⟩
      have hb5:Below wr.heap.size wr w5:=⟨hb.os,hb.tape,hb.output,hb.size,hb.block⟩
      have c5:w5.cell? ⟨w.heap.size + 1,32,none⟩ = some (.slice A0 acc.length c0):=(hb5.cell (p:=⟨w.heap.size + 1,32,none⟩) (by show w.heap.size + 1 < _; omega)).trans c32
      have c6:(w5.alloc (.cells (encN x).toArray 30)).cell? ⟨w.heap.size + 1,32,none⟩ = some (.slice A0 acc.length c0):=(World.cell?_alloc_some _ _ _ (by rw [c5]; rfl)).trans c5
      have hsw:=hb5.size
      clear hb
      refine hK _ _ ?_
      clear hK K
      refine wpAny_ready (rs:=[1,4]) (by kernel_rfl) (by simp) ?_
      refine AllReady.cons (o:=_) rfl (fun K hK=>?_) (AllReady.cons (o:=_) rfl (fun K hK=>?_) (AllReady.nil))
      ·rw [if_pos (by rfl)]
       go_simp
       refine hK _ _ ?_
       clear hK K
       refine wpAny_ready (rs:=[4]) (by kernel_rfl) (by simp) ?_
       refine AllReady.cons (o:=_) rfl (fun K hK=>?_) (AllReady.nil)
       ·rw [if_pos (by rfl)]
        refine wp_buildN _ rfl x rfl ?_
        refine hK _ _ ?_
        clear hK K
        refine wpAny_ready (rs:=[5]) (by kernel_rfl) (by simp) ?_
        refine AllReady.cons (o:=_) rfl (fun K hK=>?_) (AllReady.nil)
        ·rw [if_pos (by rfl)]
         refine wp_appendN _ _ rfl (w.heap.size + 2) (.slice A0 acc.length c0) acc rfl (own_later (own_later hown hb5) ((Below.refl w5.heap.size w5).alloc (Nat.le_refl _) (.cells (encN x).toArray 30))) (some ⟨w5.heap.size,0,none⟩) 1 1 [x] rfl rfl (arg_one (Whole.made w5 30 (encN x).toArray)) (by simp; omega) (by simp; omega) (fun v' w6 hown' hb6=>?_)
         obtain ⟨A',c',rfl,-⟩:=own_arg hown'
         have hb2:Below (w.heap.size + 2) wr w6:=((hb5.mono hsz).alloc (by omega) (.cells (encN x).toArray 30)).trans hb6
         have hw6:=hg1.out.below hb2 (by omega)
         have c7:w6.cell? ⟨w.heap.size + 1,32,none⟩ = some (.slice A0 acc.length c0):=(hw6.at_ 32).trans (encC_32 A0 c0 ⟨tr,acc,0,[]⟩)
         have f7:=hw6.thawed 32
         have HOW:=Hy (hown'.kept (gr_set (a:=w6) (w:=w6) (row:=some (w.heap.size + 1)) (gr_refl _ _) (p:=⟨w.heap.size + 1,32,none⟩) (.inl rfl) (.slice A' (acc ++ [x]).length c')) (by
          cases hq:(Value.slice A' (acc ++ [x]).length c').ownBlock with
          | none=>exact .inl rfl
          | some r=>
           refine .inr (fun e=>?_)
           have h1:=(hown'.lt r hq).1
           injection e with e
           omega))
         have hw7:=hw6.put 32 (.slice A' (acc ++ [x]).length c')
         rw [encC_set32] at hw7
         have HG17:=Hy hw7
         have HG07:=Hy (Whole.aside (hg0.out.below hb2 (by omega)) (p:=⟨w.heap.size + 1,32,none⟩) (by simp) (.slice A' (acc ++ [x]).length c'))
         have HR7:Hid (Rd (w6.setCell ⟨w.heap.size + 1,32,none⟩ (.slice A' (acc ++ [x]).length c')) b rest):=Whole.aside (Whole.below hrd.out hb2 (by omega)) (p:=⟨w.heap.size + 1,32,none⟩) (by simp; omega) _
         have HAL7:=Hy ((hal.out.belowB hb2 (by omega)).set (p:=⟨w.heap.size + 1,32,none⟩) (.inr (by simp)) (.slice A' (acc ++ [x]).length c'))
         have hs7:w.heap.size + 2 ≤ (w6.setCell ⟨w.heap.size + 1,32,none⟩ (.slice A' (acc ++ [x]).length c')).heap.size:=by have:=hb2.size; simp; omega
         have HLX:Hid ((acc ++ [x]).length = acc.length + 1):=by show _ = _; rw [List.length_append,List.length_singleton]
         have hax:(acc ++ [x]).length ≤ 4:=by rw [List.length_append]; simp; omega
         generalize acc ++ [x] = acc2 at *
         refine hK _ _ ?_
         clear hK K
         refine wpAny_ready (rs:=[6]) (by kernel_rfl) (by simp) ?_
         refine AllReady.cons (o:=_) rfl (fun K hK=>?_) (AllReady.nil)
         ·rw [if_pos (by rfl)]
          go_simp
          refine hK _ _ ?_
          clear hK K
          refine wpAny_ready (rs:=[7]) (by kernel_rfl) (by simp) ?_
          refine AllReady.cons (o:=_) rfl (fun K hK=>?_) (AllReady.nil)
          ·rw [if_pos (by rfl)]
           go_simp
           refine hK _ _ ?_
           clear hK K
           clear hb5 hb6 hb2 hw6 hw7 hown' c7 f7 c5 c6 c32 hown
           generalize w6.setCell ⟨w.heap.size + 1,32,none⟩ (.slice A' acc2.length c') = w7 at *
           refine wpAny_done (by kernel_rfl) ?_ _
           go_wp2_with fail
           refine (rdline_any b rest _ HR7.out).mono ?_
           rintro e w8 (⟨t8,r8,hv8,rfl,ha,hr⟩ | ⟨hv8,cc,hcc,rfl,ha⟩)
           case inr=>
            exact ⟨rfl,.inr ⟨by rw [HRC2.out,← hgo.out,HGI.out,hv8],cc,hcc,rfl,HAL7.out.trans ha⟩⟩
           have HGO8:Hid (parGo (5 - acc2.length) t8 r8 acc2 = parGo 5 t1 r1 []):=by show _ = _; rw [← hgo.out,HGI.out,hv8]
           have hl8:r8.length ≤ 1048576:=by have:=lineV_less rest t8 r8 hv8; omega
           have HOW8:=Hy (HOW.out.kept (row:=some b) ⟨ha.os,ha.tape,ha.output,ha.size,fun k hk hn=>ha.block k hk (fun e=>hn (by rw [e]))⟩ (by
            cases hq:(Value.slice A' acc2.length c').ownBlock with
            | none=>exact .inl rfl
            | some r=>
             refine .inr (fun e=>?_)
             have h1:=(HOW.out.lt r hq).1
             injection e with e
             omega))
           have HG18:=Hy (HG17.out.alt ha (by omega))
           have HG08:=Hy (HG07.out.alt ha (by omega))
           have HAL8:=Hy (HAL7.out.trans ha)
           have HR8:=Hy hr
           have hs8:w.heap.size + 2 ≤ w8.heap.size:=by have:=ha.size; omega
           clear ha hr hv8 HOW HG17 HG07 HAL7 HR7
           go_wp2
           go_roundg (4 - acc2.length)
           case measure=>have:=HLX.out; omega
           case rel=>exact ⟨t8,r8,acc2,A',c',rfl,hax,Nat.le_refl _,HOW8.out,HG18,HG08,HAL8,hs8,HR8,hl8,HGO8⟩
      ·rw [if_pos (by rfl)]
       refine wp_buildN _ rfl x rfl ?_
       refine hK _ _ ?_
       clear hK K
       refine wpAny_ready (rs:=[1]) (by kernel_rfl) (by simp) ?_
       refine AllReady.cons (o:=_) rfl (fun K hK=>?_) (AllReady.nil)
       ·rw [if_pos (by rfl)]
        go_simp
        refine hK _ _ ?_
        clear hK K
        refine wpAny_ready (rs:=[5]) (by kernel_rfl) (by simp) ?_
        refine AllReady.cons (o:=_) rfl (fun K hK=>?_) (AllReady.nil)
        ·rw [if_pos (by rfl)]
         refine wp_appendN _ _ rfl (w.heap.size + 2) (.slice A0 acc.length c0) acc rfl (own_later (own_later hown hb5) ((Below.refl w5.heap.size w5).alloc (Nat.le_refl _) (.cells (encN x).toArray 30))) (some ⟨w5.heap.size,0,none⟩) 1 1 [x] rfl rfl (arg_one (Whole.made w5 30 (encN x).toArray)) (by simp; omega) (by simp; omega) (fun v' w6 hown' hb6=>?_)
         obtain ⟨A',c',rfl,-⟩:=own_arg hown'
         have hb2:Below (w.heap.size + 2) wr w6:=((hb5.mono hsz).alloc (by omega) (.cells (encN x).toArray 30)).trans hb6
         have hw6:=hg1.out.below hb2 (by omega)
         have c7:w6.cell? ⟨w.heap.size + 1,32,none⟩ = some (.slice A0 acc.length c0):=(hw6.at_ 32).trans (encC_32 A0 c0 ⟨tr,acc,0,[]⟩)
         have f7:=hw6.thawed 32
         have HOW:=Hy (hown'.kept (gr_set (a:=w6) (w:=w6) (row:=some (w.heap.size + 1)) (gr_refl _ _) (p:=⟨w.heap.size + 1,32,none⟩) (.inl rfl) (.slice A' (acc ++ [x]).length c')) (by
          cases hq:(Value.slice A' (acc ++ [x]).length c').ownBlock with
          | none=>exact .inl rfl
          | some r=>
           refine .inr (fun e=>?_)
           have h1:=(hown'.lt r hq).1
           injection e with e
           omega))
         have hw7:=hw6.put 32 (.slice A' (acc ++ [x]).length c')
         rw [encC_set32] at hw7
         have HG17:=Hy hw7
         have HG07:=Hy (Whole.aside (hg0.out.below hb2 (by omega)) (p:=⟨w.heap.size + 1,32,none⟩) (by simp) (.slice A' (acc ++ [x]).length c'))
         have HR7:Hid (Rd (w6.setCell ⟨w.heap.size + 1,32,none⟩ (.slice A' (acc ++ [x]).length c')) b rest):=Whole.aside (Whole.below hrd.out hb2 (by omega)) (p:=⟨w.heap.size + 1,32,none⟩) (by simp; omega) _
         have HAL7:=Hy ((hal.out.belowB hb2 (by omega)).set (p:=⟨w.heap.size + 1,32,none⟩) (.inr (by simp)) (.slice A' (acc ++ [x]).length c'))
         have hs7:w.heap.size + 2 ≤ (w6.setCell ⟨w.heap.size + 1,32,none⟩ (.slice A' (acc ++ [x]).length c')).heap.size:=by have:=hb2.size; simp; omega
         have HLX:Hid ((acc ++ [x]).length = acc.length + 1):=by show _ = _; rw [List.length_append,List.length_singleton]
         have hax:(acc ++ [x]).length ≤ 4:=by rw [List.length_append]; simp; omega
         generalize acc ++ [x] = acc2 at *
         refine hK _ _ ?_
         clear hK K
         refine wpAny_ready (rs:=[6]) (by kernel_rfl) (by simp) ?_
         refine AllReady.cons (o:=_) rfl (fun K hK=>?_) (AllReady.nil)
         ·rw [if_pos (by rfl)]
          go_simp
          refine hK _ _ ?_
          clear hK K
          refine wpAny_ready (rs:=[7]) (by kernel_rfl) (by simp) ?_
          refine AllReady.cons (o:=_) rfl (fun K hK=>?_) (AllReady.nil)
          ·rw [if_pos (by rfl)]
           go_simp
           refine hK _ _ ?_
           clear hK K
           clear hb5 hb6 hb2 hw6 hw7 hown' c7 f7 c5 c6 c32 hown
           generalize w6.setCell ⟨w.heap.size + 1,32,none⟩ (.slice A' acc2.length c') = w7 at *
           refine wpAny_done (by kernel_rfl) ?_ _
           go_wp2_with fail
           refine (rdline_any b rest _ HR7.out).mono ?_
           rintro e w8 (⟨t8,r8,hv8,rfl,ha,hr⟩ | ⟨hv8,cc,hcc,rfl,ha⟩)
           case inr=>
            exact ⟨rfl,.inr ⟨by rw [HRC2.out,← hgo.out,HGI.out,hv8],cc,hcc,rfl,HAL7.out.trans ha⟩⟩
           have HGO8:Hid (parGo (5 - acc2.length) t8 r8 acc2 = parGo 5 t1 r1 []):=by show _ = _; rw [← hgo.out,HGI.out,hv8]
           have hl8:r8.length ≤ 1048576:=by have:=lineV_less rest t8 r8 hv8; omega
           have HOW8:=Hy (HOW.out.kept (row:=some b) ⟨ha.os,ha.tape,ha.output,ha.size,fun k hk hn=>ha.block k hk (fun e=>hn (by rw [e]))⟩ (by
            cases hq:(Value.slice A' acc2.length c').ownBlock with
            | none=>exact .inl rfl
            | some r=>
             refine .inr (fun e=>?_)
             have h1:=(HOW.out.lt r hq).1
             injection e with e
             omega))
           have HG18:=Hy (HG17.out.alt ha (by omega))
           have HG08:=Hy (HG07.out.alt ha (by omega))
           have HAL8:=Hy (HAL7.out.trans ha)
           have HR8:=Hy hr
           have hs8:w.heap.size + 2 ≤ w8.heap.size:=by have:=ha.size; omega
           clear ha hr hv8 HOW HG17 HG07 HAL7 HR7
           go_wp2
           go_roundg (4 - acc2.length)
           case measure=>have:=HLX.out; omega
           case rel=>exact ⟨t8,r8,acc2,A',c',rfl,hax,Nat.le_refl _,HOW8.out,HG18,HG08,HAL8,hs8,HR8,hl8,HGO8⟩
   ·have hd4:decide ((acc.length:Int) < 4) = false:=by simp; omega
    have HNO:Hid (readC s = none):=by show _ = _; rw [HRC2.out,← hgo.out,parGo_full acc tx rest hlt hac hst]
    clear hst
    go_wp2_with (first
     | (go_at_call 235; refine (HPXX.out _).mono ?_; rintro e w' ⟨rfl,rfl⟩)
     | (go_at_call 78; refine (must_no _ _).mono ?_; rintro e w' ⟨rfl,rfl⟩))
    exact ⟨rfl,.inr ⟨HNO.out,1,by decide,rfl,hal.out⟩⟩
  | false=>
   rw [hst] at HPXX
   have HGX:=Hy (parGo_out acc tx rest hac hst)
   clear hst
   go_wp2_with (go_at_call 235; refine (HPXX.out _).mono ?_; rintro e w' ⟨rfl,rfl⟩)
   refine (ctime_opt tx _).mono ?_
   rintro e w5 ⟨(⟨tm,htm,rfl⟩ | ⟨htm,rfl⟩),rfl⟩
   case inr=>
    exact ⟨rfl,.inr ⟨by rw [HRC2.out,← hgo.out,HGX.out]; dsimp only; rw [htm],1,by decide,rfl,hal.out⟩⟩
   have HTL:Hid (tm < 18446744073709551616):=timV_lt tx tm htm
   have HRC3:Hid (readC s = (match lineV rest with
    | none=>none
    | some p2=>if p2.1 = [] then (if mayC ⟨tr,acc,tm,p2.2⟩ then some ⟨tr,acc,tm,p2.2⟩ else none) else none)):=by
    show _ = _
    rw [HRC2.out,← hgo.out,HGX.out]
    dsimp only
    rw [htm]
   have c33:wr.cell? ⟨w.heap.size + 1,33,none⟩ = some (.float .f64 0):=(hg1.out.at_ 33).trans (encC_33 A0 c0 ⟨tr,acc,0,[]⟩)
   have f33:=hg1.out.thawed 33
   have hst:(store ⟨w.heap.size + 1,33,none⟩ (.float .f64 tm)).run Tryz.prog wr = .ok () (wr.setCell ⟨w.heap.size + 1,33,none⟩ (.float .f64 tm)):=by
    rw [run_store _ _ _ _ _ rfl]
    simp [c33,f33]
   clear htm c32
   go_wp2_with fail
   have hw6:=hg1.out.put 33 (.float .f64 tm)
   rw [encC_set33] at hw6
   have HG16:=Hy hw6
   have HG06:=Hy (Whole.aside hg0.out (p:=⟨w.heap.size + 1,33,none⟩) (by simp) (.float .f64 tm))
   have HR6:Hid (Rd (wr.setCell ⟨w.heap.size + 1,33,none⟩ (.float .f64 tm)) b rest):=Whole.aside hrd.out (p:=⟨w.heap.size + 1,33,none⟩) (by simp; omega) _
   have HAL6:=Hy (hal.out.set (p:=⟨w.heap.size + 1,33,none⟩) (.inr (by simp)) (.float .f64 tm))
   have HOW6:=Hy (hown.kept (gr_set (a:=wr) (w:=wr) (row:=some (w.heap.size + 1)) (gr_refl _ _) (p:=⟨w.heap.size + 1,33,none⟩) (.inl rfl) (.float .f64 tm)) (by
    cases hq:(Value.slice A0 acc.length c0).ownBlock with
    | none=>exact .inl rfl
    | some r=>
     refine .inr (fun e=>?_)
     have h1:=(hown.lt r hq).1
     injection e with e
     omega))
   have hs6:w.heap.size + 2 ≤ (wr.setCell ⟨w.heap.size + 1,33,none⟩ (.float .f64 tm)).heap.size:=by simpa [World.setCell] using hsz
   clear hw6 c33 f33 hst hown hg1 hg0 hal hrd hsz hgo
   generalize wr.setCell ⟨w.heap.size + 1,33,none⟩ (.float .f64 tm) = w6 at *
   refine (rdline_any b rest _ HR6.out).mono ?_
   rintro e w7 (⟨t9,r9,hv9,rfl,ha,hr⟩ | ⟨hv9,cc,hcc,rfl,ha⟩)
   case inr=>
    exact ⟨rfl,.inr ⟨by rw [HRC3.out,hv9],cc,hcc,rfl,HAL6.out.trans ha⟩⟩
   have HRC4:Hid (readC s = (if t9 = [] then (if mayC ⟨tr,acc,tm,r9⟩ then some ⟨tr,acc,tm,r9⟩ else none) else none)):=by
    show _ = _
    rw [HRC3.out,hv9]
   have hl9:r9.length ≤ 1048576:=by have:=lineV_less rest t9 r9 hv9; omega
   have HAL7:=Hy (HAL6.out.trans ha)
   have HG17:=Hy (HG16.out.alt ha (by omega))
   have HG07:=Hy (HG06.out.alt ha (by omega))
   have HOW7:=Hy (HOW6.out.kept (row:=some b) ⟨ha.os,ha.tape,ha.output,ha.size,fun k hk hn=>ha.block k hk (fun e=>hn (by rw [e]))⟩ (by
    cases hq:(Value.slice A0 acc.length c0).ownBlock with
    | none=>exact .inl rfl
    | some r=>
     refine .inr (fun e=>?_)
     have h1:=(HOW6.out.lt r hq).1
     injection e with e
     omega))
   have HR7:=Hy hr
   have hs7:w.heap.size + 2 ≤ w7.heap.size:=by have:=ha.size; omega
   clear ha hr hv9 HG16 HG06 HAL6 HOW6 HR6 HRC3
   cases hie:t9.isEmpty with
   | false=>
    have HNE:Hid (t9 ≠ []):=by intro e; rw [e] at hie; cases hie
    go_wp2_with (go_at_call 78; refine (must_no _ _).mono ?_; rintro e w' ⟨rfl,rfl⟩)
    exact ⟨rfl,.inr ⟨by rw [HRC4.out,if_neg HNE.out],1,by decide,rfl,HAL7.out⟩⟩
   | true=>
    have HE9:Hid (t9 = []):=by
     cases t9 with
     | nil=>rfl
     | cons _ _=>cases hie
    have HBY:=Hy (rbytes_some b r9 r9.length w7 HR7.out (Nat.le_refl _) hl9)
    go_wp2_with (first
     | (go_at_call 37; refine (left_any b r9 _ HR7.out).mono ?_; rintro e w' ⟨rfl,rfl⟩)
     | (go_at_call 78; refine (must_yes _ _).mono ?_; rintro e w' ⟨rfl,rfl⟩))
    refine HBY.out.mono ?_
    rintro e w8 ⟨gg,cg,rfl,hrow,ha,hr,hgg⟩
    rw [List.take_length] at hrow
    have hcv:=bytes_str (P:=Tryz.prog) 63 9 5 Tryz.underlying63 Tryz.underlying5 Tryz.underlying9 hrow.bytes
    have HAL8:=Hy (HAL7.out.trans ha)
    have hg18:=HG17.out.alt ha (by omega)
    have HG08:=Hy (HG07.out.alt ha (by omega))
    have HOW8:=Hy (HOW7.out.kept (row:=some b) ⟨ha.os,ha.tape,ha.output,ha.size,fun k hk hn=>ha.block k hk (fun e=>hn (by rw [e]))⟩ (by
     cases hq:(Value.slice A0 acc.length c0).ownBlock with
     | none=>exact .inl rfl
     | some r=>
      refine .inr (fun e=>?_)
      have h1:=(HOW7.out.lt r hq).1
      injection e with e
      omega))
    have hs8:w.heap.size + 2 ≤ w8.heap.size:=by have:=ha.size; omega
    have c34:w8.cell? ⟨w.heap.size + 1,34,none⟩ = some (.string ⟨#[]⟩):=(hg18.at_ 34).trans (encC_34 A0 c0 ⟨tr,acc,tm,[]⟩)
    have f34:=hg18.thawed 34
    have hw9:=hg18.put 34 (.string ⟨r9.toArray⟩)
    rw [encC_set34] at hw9
    have HG19:=Hy hw9
    have HG09:=Hy (Whole.aside HG08.out (p:=⟨w.heap.size + 1,34,none⟩) (by simp) (.string ⟨r9.toArray⟩))
    have HAL9:=Hy (HAL8.out.set (p:=⟨w.heap.size + 1,34,none⟩) (.inr (by simp)) (.string ⟨r9.toArray⟩))
    have HOW9:=Hy (HOW8.out.kept (gr_set (a:=w8) (w:=w8) (row:=some (w.heap.size + 1)) (gr_refl _ _) (p:=⟨w.heap.size + 1,34,none⟩) (.inl rfl) (.string ⟨r9.toArray⟩)) (by
     cases hq:(Value.slice A0 acc.length c0).ownBlock with
     | none=>exact .inl rfl
     | some r=>
      refine .inr (fun e=>?_)
      have h1:=(HOW8.out.lt r hq).1
      injection e with e
      omega))
    have hs9:w.heap.size + 2 ≤ (w8.setCell ⟨w.heap.size + 1,34,none⟩ (.string ⟨r9.toArray⟩)).heap.size:=by simpa [World.setCell] using hs8
    have HXS:=Hy (infoC_s A0 c0 ⟨tr,acc,tm,r9⟩)
    clear hrow ha hr hg18 hw9 HBY HAL7 HG17 HG07 HOW7 HR7 HAL8 HG08 HOW8
    go_wp2_with (first
     | (refine wpList_load_row rfl 47 _ rfl (w.heap.size + 1) rfl 47 (encC A0 c0 ⟨tr,acc,tm,r9⟩).toArray (0,0) _ HG19.out Tryz.underlying47 rfl HXS.out ?_))
    clear c34 f34 hcv
    generalize w8.setCell ⟨w.heap.size + 1,34,none⟩ (.string ⟨r9.toArray⟩) = w9 at *
    have HNC:Hid (∀ j,inBlk A0 j → w.heap.size ≤ j):=by
     rintro j ⟨a,rfl,rfl⟩
     have:=(HOW9.out.lt a.block rfl).1
     omega
    have HNB:Hid (∀ j,inBlk A0 j → some j ≠ some w.heap.size):=by
     rintro j ⟨a,rfl,rfl⟩ e
     injection e with e
     have:=(HOW9.out.lt a.block rfl).1
     omega
    obtain ⟨A9,c9,e9,harg⟩:=own_arg HOW9.out
    injection e9 with e9 _ e9'
    subst e9 e9'
    refine (cmay_any A0 c0 ⟨tr,acc,tm,r9⟩ _ harg HTL.out).mono ?_
    rintro e w10 ⟨rfl,hb⟩
    have HAL10:=Hy (HAL9.out.below hb)
    have HG110:=Hy (HG19.out.below hb HG19.out.lt)
    have HG010:=Hy (HG09.out.below hb HG09.out.lt)
    have HAR:=Hy (harg.later hb)
    have HOB:=Hy ((own_blk HOW9.out).later hb)
    clear hb HG19 HG09 HAL9 HOW9 harg
    cases hm:mayC ⟨tr,acc,tm,r9⟩ with
    | false=>
     go_wp2_with (go_at_call 78; refine (must_no _ _).mono ?_; rintro e w' ⟨rfl,rfl⟩)
     exact ⟨rfl,.inr ⟨by rw [HRC4.out,if_pos HE9.out,hm]; rfl,1,by decide,rfl,HAL10.out⟩⟩
    | true=>
     have HF:Hid (readC s = some ⟨tr,acc,tm,r9⟩):=by show _ = _; rw [HRC4.out,if_pos HE9.out,hm]; rfl
     clear hm
     have HAL:=Hy (encC_all A0 c0 ⟨tr,acc,tm,r9⟩)
     have HSZ:=Hy (encC_s A0 c0 ⟨tr,acc,tm,r9⟩)
     generalize hcs:(encC A0 c0 ⟨tr,acc,tm,r9⟩).toArray = cs at *
     go_wp2_with (first
      | (go_at_call 78; refine (must_yes _ _).mono ?_; rintro e w' ⟨rfl,rfl⟩)
      | (refine wpList_load_row rfl 47 _ rfl (w.heap.size + 1) rfl 47 cs (0,0) _ HG110.out Tryz.underlying47 rfl HXS.out ?_)
      | (refine wpList_store_whole rfl 47 _ _ rfl w.heap.size cs rfl rfl 47 z HG010.out HXS.out (by rw [HSZ.out]; exact HZS.out) HAL.out ?_; intro w11 hWn hGn; have HW11:=Hy hWn; have HG11:=Hy hGn; clear hWn hGn))
     have HALF:=Hy (HAL10.out.grown HG11.out (fun j hj=>by injection hj with hj; exact .inl (by omega)))
     refine bodyPost_ret (v:=.agg cs) ?_ rfl (.inl ⟨⟨tr,acc,tm,r9⟩,A0,c0,HF.out,by rw [hcs],HALF.out,HAR.out.grown HG11.out (fun j hj _=>HNB.out j hj),HNC.out,HOB.out.grown HG11.out HNB.out⟩)
     exact results_cell_row (p:=2) (ty:=47) rfl _ _ w.heap.size 47 cs (0,0) _ rfl HW11.out Tryz.underlying47 rfl HXS.out
end Go.Proofs.YtlfmooihcigolaaGreatDoor
