/-
  DelI, DelJ.
-/
import Derived.Test.YtlfmooihcigolaaGreatDoorMar
import Derived.Test.YtlfmooihcigolaaGreatDoorMbi
set_option maxRecDepth 100000
set_option maxHeartbeats 8000000
namespace Go.Proofs.YtlfmooihcigolaaGreatDoor
section
open Go.RowKit Go.WideMaps Go.Maps
theorem own_up {w:World} {B B':Nat} {v:Value} {n:Nat} {xs:List Value} {e:TypeId} {k:Nat} (hB:B ≤ B') (h:w.ownsRow B' e k v n xs):w.ownsRow B e k v n xs:=by
 refine ⟨h.1,?_⟩
 rcases h.2 with h0 | ⟨g,cap,cur,hv,hg,rest⟩
 ·exact .inl h0
 ·exact .inr ⟨g,cap,cur,hv,Nat.le_trans hB hg,rest⟩
theorem ext_sl (l:List UInt8) (a b:Nat):(ByteArray.mk l.toArray).extract a b = ⟨((l.take b).drop a).toArray⟩:=by
 rw [ByteArray.extract_mk,List.drop_take]
theorem ownW_kept {w w':World} {g n:Nat} {D:DataW Unit} (h:OwnW w g n D) (hk:w'.heap[g]? = w.heap[g]?):OwnW w' g n D:=by
 obtain ⟨es,clock,hb,rest⟩:=h
 exact ⟨es,clock,hk.trans hb,rest⟩
theorem ownW_lt {w:World} {g n:Nat} {D:DataW Unit} (h:OwnW w g n D):g < w.heap.size:=by
 obtain ⟨es,clock,hb,-⟩:=h
 exact (Array.getElem?_eq_some_iff.1 hb).1
theorem dcut_any (b t:List UInt8) (hb:b.length ≤ 1000000) (ht:t.length ≤ 100000) (w:World) :
  Calls Tryz.prog 49 #[.string ⟨b.toArray⟩,.string ⟨t.toArray⟩] w fun e w'=>(∃ v cs,e = .returned v ∧ w'.ownsRow w.heap.size 72 3 v cs.length (cs.flatMap encK) ∧ (∀ c ∈ cs,okC b.length c) ∧ applyC b cs = t ∧ costC cs ≤ t.length + t.length / 100 + 1 ∧ cs.length ≤ t.length) ∧ Below w.heap.size w w':=by
 have HWIN:=Hy (dwin_any b hb w)
 go_enter Tryz.func49,Tryz.ntmps49
 go_wp2_with fail
 refine HWIN.out.mono ?_
 rintro e w1 ⟨rfl,⟨n,D,hown,hgd⟩,hb1⟩
 have HB1:=Hy hb1
 have HW1:=Hy hown
 have HGD:=Hy hgd
 have hg1:=ownW_lt hown
 clear hb1 hown hgd HWIN
 go_wp2
 go_loopg [6,7,8,9,10,11] t.length (fun gg s6 s7 s8 _ _ _ wr=>∃ (cs:List Ct) (done at_:Nat) (A:Option Addr) (c:Nat),s6 = .slice A cs.length c ∧ s7 = .int .i64 done ∧ s8 = .int .i64 at_ ∧ done ≤ at_ ∧ at_ ≤ t.length ∧ t.length - at_ ≤ gg ∧ cs.length ≤ t.length ∧ wr.ownsRow (w.heap.size + 1) 72 3 (.slice A cs.length c) cs.length (cs.flatMap encK) ∧ Hid (CutTo b t done cs) ∧ Hid (OwnW wr w.heap.size n D) ∧ Hid (Below w.heap.size w wr) ∧ w.heap.size + 1 ≤ wr.heap.size)
 case atStart=>exact ⟨[],0,0,none,0,rfl,rfl,rfl,Nat.le_refl _,Nat.zero_le _,by omega,Nat.zero_le _,by simpa using World.ownsRow_nil _ _ _ _,Hy (CutTo.zero b t),HW1,HB1,by omega⟩
 case round=>
  rename World=>wr
  obtain ⟨cs,done,at_,A,c,rfl,rfl,rfl,hda,hat,hgg,hcl,hown,hct,hmap,hwr,hsz⟩:=hrel
  by_cases h8:at_ + 8 ≤ t.length
  ·have h8':(at_:Int) + 8 ≤ (t.length:Int):=by omega
   have HS:Hid ((ByteArray.mk t.toArray).extract at_ (at_ + 8) = ⟨((t.drop at_).take 8).toArray⟩):=ext_mid t at_ 8
   have hl8:((t.drop at_).take 8).length = 8:=by rw [List.length_take,List.length_drop]; omega
   have HKEY:Hid (keyOf Tryz.prog 9 (.string ((ByteArray.mk t.toArray).extract at_ (at_ + 8))) = some (.string ((t.drop at_).take 8))):=by show _ = _; rw [HS.out]; exact keyS _ (by rw [hl8]; unfold maxLen; omega)
   have HOW:=Hy hown
   clear hl8 hown
   cases hq:Maps.has D (.string ((t.drop at_).take 8)) with
   | false=>
    go_wp2_with (at_lookup; refine wpList_lookup_own_ok_int _ rfl _ _ 157 rfl 9 3 .i64 lawS Tryz.underlying157 Tryz.underlying3 (zeroI _) w.heap.size n D rfl hmap.out _ _ rfl HKEY.out ?_; intro cc hcc hwc; clear hcc hwc)
    go_roundg (t.length - (at_ + 1))
    case measure=>omega
    case rel=>exact ⟨cs,done,at_ + 1,A,c,rfl,rfl,by go_num,by omega,by omega,Nat.le_refl _,hcl,HOW.out,hct,hmap,hwr,hsz⟩
   | true=>
    obtain ⟨a,haa,ha1,ha2,ha3⟩:=HGD.out _ hq
    have HAA:=Hy haa
    have HA3:=Hy ha3
    clear haa ha3
    go_wp2_with (at_lookup; refine wpList_lookup_own_ok_int _ rfl _ _ 157 rfl 9 3 .i64 lawS Tryz.underlying157 Tryz.underlying3 (zeroI _) w.heap.size n D rfl hmap.out _ _ rfl HKEY.out ?_; intro cc hcc hwc; clear hwc; rw [HAA.out] at hcc; injection hcc with hcc; injection hcc with _ hcc; subst hcc)
    have hstep:=hct.out.step hda h8 ha1 ha2 HA3.out ht
    have HE1:Hid ((ByteArray.mk b.toArray).extract a b.length = ⟨(b.drop a).toArray⟩):=ext_from b a
    have HE2:Hid ((ByteArray.mk t.toArray).extract at_ t.length = ⟨(t.drop at_).toArray⟩):=ext_from t at_
    have HE3:Hid ((ByteArray.mk t.toArray).extract done at_ = ⟨((t.take at_).drop done).toArray⟩):=ext_sl t done at_
    have HAL:=Hy fun W=>dalike_any (b.drop a) (t.drop at_) (by rw [List.length_drop]; omega) W
    rw [← HE1.out,← HE2.out] at HAL
    have hab:a ≤ b.length:=by omega
    generalize alikeV (b.drop a) (t.drop at_) = m at *
    obtain ⟨hm8,hmt,hct2⟩:=hstep
    have hil:((t.take at_).drop done).length ≤ 1000000:=by rw [List.length_drop,List.length_take]; omega
    have HCT2:=Hy hct2
    have hfew:=hct2.few
    clear hct2 HAA HA3 hq h8' HKEY HS
    go_wp2_with fail
    refine wp_region_quiet_lit (by kernel_rfl) (by kernel_rfl) ?_
    repeat (go_big_quiet_step ((go_at_call 92; exact q_draw (HAL.out _))))
    refine wpQuiet_nil ?_
    rintro _ ⟨nq,rfl⟩
    have hw2:Below wr.heap.size wr (wr.drewN nq):=be_drewN (Below.refl _ _) nq
    have HOW2:=Hy (own_later HOW.out hw2)
    have HB2:=Hy (hTr hwr hw2)
    have HM2:=Hy (ownW_kept hmap.out (hw2.block _ (by omega)))
    have hs2:w.heap.size + 1 ≤ (wr.drewN nq).heap.size:=hsz
    clear hw2 HOW hwr hmap hsz hct HAL
    go_wp2_with fail
    rw [HE3.out]
    generalize wr.drewN nq = w2 at *
    refine (dinsert_any (w.heap.size + 1) _ cs ((t.take at_).drop done) w2 HOW2.out hs2 (by omega) hil).mono ?_
    rintro e w3 ⟨⟨v3,rfl,hown3⟩,hb3⟩
    have HB3:=Hy (HB2.out.trans (hb3.mono (by omega)))
    have HM3:=Hy (ownW_kept HM2.out (hb3.block _ (by omega)))
    have hs3:=hb3.size
    have HOW3:=Hy hown3
    obtain ⟨A3,c3,rfl,-,-⟩:=own_argG eltK hown3
    clear hown3 hb3 HOW2 HB2 HM2
    generalize hL3:cs ++ insV ((t.take at_).drop done) = L3 at *
    have hfewL:L3.length ≤ 1000000:=by have:=hfew; simp at this; omega
    have HONE:Hid (ArgG encK default 3 (w3.alloc (.cells (encK ⟨[],a,m⟩).toArray 72)) (some ⟨w3.heap.size,0,none⟩) 1 [⟨[],a,m⟩]):=argG_one (Whole.made w3 72 (encK ⟨[],a,m⟩).toArray)
    have HZ5:Hid (w.heap.size + 1 ≤ (w3.alloc (.cells (encK ⟨[],a,m⟩).toArray 72)).heap.size):=by show _ ≤ _; simp; omega
    have HLL:Hid (L3.length + [(⟨[],a,m⟩:Ct)].length ≤ 10000000):=by show _ ≤ _; simp; omega
    have HBA:=Hy (HB3.out.alloc (by omega) (.cells (encK ⟨[],a,m⟩).toArray 72))
    have HBX:Hid (Value.agg #[Value.string ⟨#[]⟩,.int .i64 (a:Int),.int .i64 (m:Int)] = .agg (encK ⟨[],a,m⟩).toArray):=rfl
    have HMA:=Hy (ownW_kept HM3.out ((Below.refl w3.heap.size w3).alloc (Nat.le_refl _) (.cells (encK ⟨[],a,m⟩).toArray 72) |>.block _ (by omega)))
    have hsA:w.heap.size + 1 < (w3.alloc (.cells (encK ⟨[],a,m⟩).toArray 72)).heap.size:=by simp; omega
    go_wp2_with (first
     | (refine wpList_buildG eltK rfl _ rfl ⟨[],a,m⟩ HBX.out ?_)
     | (at_builtin; go_loud (refine wpList_appendG eltK rfl _ _ rfl (w.heap.size + 1) (.slice A3 L3.length c3) L3 rfl (own_later HOW3.out ((Below.refl _ _).alloc (Nat.le_refl _) _)) (some ⟨w3.heap.size,0,none⟩) 1 1 [⟨[],a,m⟩] rfl rfl HONE.out HZ5.out HLL.out ?_; intro v' w6 hown' hb6' _; have HOW6:=Hy hown'; have HB6:=Hy (HBA.out.trans (hb6'.mono (by omega))); have HM6:=Hy (ownW_kept HMA.out (hb6'.block _ (by omega))); have hs6:=hb6'.size; clear hown' hb6')))
    obtain ⟨A6,c6,rfl,-,-⟩:=own_argG eltK HOW6.out
    go_roundg (t.length - (at_ + m))
    case measure=>omega
    case rel=>exact ⟨L3 ++ [⟨[],a,m⟩],at_ + m,at_ + m,A6,c6,rfl,by go_num,by go_num,Nat.le_refl _,hmt,Nat.le_refl _,by omega,HOW6.out,HCT2,HM6,HB6,by omega⟩
  ·have h8':¬ (at_:Int) + 8 ≤ (t.length:Int):=by omega
   have HE2:Hid ((ByteArray.mk t.toArray).extract done t.length = ⟨(t.drop done).toArray⟩):=ext_from t done
   have hdt:done ≤ t.length:=by omega
   have HOW:=Hy hown
   have HCL:=Hy hct.out.last
   have hil:(t.drop done).length ≤ 1000000:=by rw [List.length_drop]; omega
   clear hown hct hmap
   go_wp2_with fail
   rw [HE2.out]
   refine (dinsert_any (w.heap.size + 1) _ cs (t.drop done) wr HOW.out hsz (by omega) hil).mono ?_
   rintro e w3 ⟨⟨v3,rfl,hown3⟩,hb3⟩
   have HB3:=Hy (hwr.out.trans (hb3.mono (by omega)))
   have HOW3:=Hy (own_up (show w.heap.size ≤ w.heap.size + 1 by omega) hown3)
   clear hown3 hb3
   go_wp2
   go_ret
   obtain ⟨c1,c2,c3,c4⟩:=HCL.out
   exact ⟨⟨_,_,rfl,HOW3.out,c1,c2,c3,c4⟩,HB3.out⟩
end
section
open Go.RowKit
theorem encD_len (base:Nat) (cs:List Ct) (hb:base ≤ 1000000) (hs:sumC cs ≤ 1000000):(encD base cs).length ≤ 6 + costC cs:=by
 have e1:=numV_le base hb
 have e2:=numV_le (sumC cs) hs
 unfold encD costC
 rw [List.length_append,List.length_append]
 omega
theorem dmake_any (b t:List UInt8) (hb:b.length ≤ 1000000) (ht:t.length ≤ 100000) (w:World) :
  Calls Tryz.prog 16 #[.string ⟨b.toArray⟩,.string ⟨t.toArray⟩] w fun e w'=>(∃ cs,e = .returned (.string ⟨(encD b.length cs).toArray⟩) ∧ (∀ c ∈ cs,okC b.length c) ∧ applyC b cs = t ∧ sumC cs = t.length ∧ (encD b.length cs).length ≤ t.length + t.length / 100 + 7) ∧ Below w.heap.size w w':=by
 have HC:=Hy fun W=>dcut_any b t hb ht W
 go_enter Tryz.func16,Tryz.ntmps16
 go_wp2_with fail
 refine (HC.out _).mono ?_
 rintro e w1 ⟨⟨v,cs,rfl,hown,hok,hap,hco,hfew⟩,hb1⟩
 have HB1:=Hy hb1
 obtain ⟨A,c,rfl,har,-⟩:=own_argG eltK hown
 have hsum:sumC cs = t.length:=by rw [← applyC_len cs hok,hap]
 have hle:=encD_len b.length cs hb (by omega)
 clear hown hb1 HC
 go_wp2_with fail
 refine (dput_any b.length A c cs w1 har hok hb (by omega)).mono ?_
 rintro e w2 ⟨rfl,hb2⟩
 have HB2:=Hy (hTr HB1 hb2)
 clear hb2 HB1 har
 go_wp2
 go_ret
 exact ⟨⟨cs,rfl,hok,hap,hsum,by omega⟩,HB2.out⟩
end
end Go.Proofs.YtlfmooihcigolaaGreatDoor
