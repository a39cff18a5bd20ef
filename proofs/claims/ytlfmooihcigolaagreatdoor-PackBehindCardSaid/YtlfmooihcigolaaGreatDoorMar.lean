/-
  DelF, DelG, DelH, ThiI.
-/
import Derived.Test.YtlfmooihcigolaaGreatDoorMaq
import Derived.Laws.Small
import Derived.Maps.OwnOps
import Derived.Maps.Views
import Derived.WalkSpells
import Derived.Maps.RangeWalk
set_option maxRecDepth 100000
set_option maxHeartbeats 8000000
namespace Go.Proofs.YtlfmooihcigolaaGreatDoor
section
open Go.RowKit
theorem flatA_snoc (bs:List UInt8) (cs:List Ct) (k:Nat) (h:k < cs.length):applyC bs (cs.take (k + 1)) = applyC bs (cs.take k) ++ (cs.getD k default).ins ++ (bs.drop (cs.getD k default).frm).take (cs.getD k default).len:=by
 rw [List.take_succ_eq_append_getElem h,applyC_append,applyC_one,List.append_assoc]
 simp [cutV,List.getD,List.getElem?_eq_getElem h]
theorem ext_mid (l:List UInt8) (a n:Nat):(ByteArray.mk l.toArray).extract a (a + n) = ⟨((l.drop a).take n).toArray⟩:=by
 rw [ByteArray.extract_mk]
 simp
theorem grow_any (b n:Nat) (w:World) (hbk:w.heap[b]? = some (.cells #[.pointer none,.slice none 0 0] BT (0,0))) (hBw:b ≤ w.heap.size) (hn:n ≤ 281474976710656):Calls Tryz.prog 51 #[.pointer (some ⟨b,0,none⟩),.int .i64 (n:Int)] w fun e w'=>e = .returned (.tuple #[]) ∧ Bd w' b b [] ∧ Below b w w':=
 (Tryz.Builder_Grow_fresh b b n w (Nat.le_refl _) hbk hBw hn).mono fun _ _ h=>⟨h.1,.inr h.2.1,h.2.2⟩
theorem dapply_any (bs:List UInt8) (cs:List Ct) (w:World) (hok:∀ c ∈ cs,okC bs.length c) (hb6:bs.length ≤ 1000000) (hs6:sumC cs ≤ 1000000) :
  Calls Tryz.prog 17 #[.string ⟨bs.toArray⟩,.string ⟨(encD bs.length cs).toArray⟩] w fun e w'=>e = .returned (.tuple #[.string ⟨(applyC bs cs).toArray⟩,.int .i64 0]) ∧ Below w.heap.size w w':=by
 have HG:=Hy (dget_any bs.length cs w hok hb6 hs6)
 have HOK:=Hy (fun k hk=>okC_at hok k hk)
 have HSN:=Hy (fun k hk=>flatA_snoc bs cs k hk)
 have HAL:Hid (∀ k,k ≤ cs.length → (applyC bs (cs.take k)).length ≤ 1000000):=fun k _=>by
  rw [applyC_len _ (fun c hc=>hok c (List.mem_of_mem_take hc))]
  have:=sumC_take cs k
  omega
 have hlen:cs.length ≤ 1000000:=Nat.le_trans (sumC_le cs hok) hs6
 clear hok
 generalize encD bs.length cs = s at *
 go_enter Tryz.func17,Tryz.ntmps17
 go_wp2_with fail
 refine HG.out.mono ?_
 rintro e w1 ⟨⟨A,c,rfl,har⟩,hb⟩
 have HB1:=Hy hb
 have HA:=Hy har
 have hlc:=har.1
 obtain ⟨b,hbe⟩:∃ b,b = w1.heap.size:=⟨_,rfl⟩
 have HLT:Hid (∀ j,inBlk A j → 0 < cs.length → j < b):=fun j hj h0=>by rw [hbe]; exact har.lt eltK hj h0
 clear hb har HG
 have HBK:=Hy (Whole.made w1 BT #[.pointer none,.slice none 0 0])
 have HB2:=Hy (HB1.out.alloc HB1.out.size (.cells #[.pointer none,.slice none 0 0] 97))
 have HA2:=Hy (HA.out.later eltK ((Below.refl w1.heap.size w1).alloc (Nat.le_refl _) (.cells #[.pointer none,.slice none 0 0] 97)))
 have hs2:(w1.alloc (.cells #[.pointer none,.slice none 0 0] 97)).heap.size = b + 1:=by rw [hbe]; simp
 have hsb:=HB1.out.size
 rw [← hbe] at HBK hsb
 go_wp2_with fail
 rw [← hbe]
 generalize w1.alloc (.cells #[.pointer none,.slice none 0 0] 97) = w2 at *
 clear HB1 hbe HA
 refine (grow_any b (sumC cs) w2 HBK.out (by omega) (by omega)).mono ?_
 rintro e w3 ⟨rfl,hbd3,hB3⟩
 have HB3:=Hy (HB2.out.trans (hB3.mono hsb))
 have HD3:Hid (Bd w3 b b (applyC bs (cs.take 0))):=hbd3
 have HA3:Hid (ArgG encK default 3 w3 A c cs):=HA2.out.below hB3 HLT.out
 have hs3:=hB3.size
 clear hbd3 hB3 HB2 HA2 HBK
 go_wp2
 go_loopg [12,31] cs.length (fun g _ s31 wr=>∃ k:Nat,k ≤ cs.length ∧ cs.length - k ≤ g ∧ s31 = .int .i64 k ∧ Hid (Below w.heap.size w wr) ∧ Hid (Below b w3 wr) ∧ b < wr.heap.size ∧ Hid (Bd wr b b (applyC bs (cs.take k))))
 case atStart=>exact ⟨0,Nat.zero_le _,by omega,rfl,HB3,Hy (Below.refl _ _),by omega,HD3⟩
 case round=>
  obtain ⟨k,hk,hg,rfl,hwr,hw3,hsz,hbd⟩:=hrel
  by_cases hlt:k < cs.length
  ·have hlt':(k:Int) < (cs.length:Int):=by omega
   obtain ⟨bb,o,rfl,hr⟩:=(HA3.out.below hw3.out HLT.out).2.2.2 (by omega)
   have hsn:=HSN.out k hlt
   have hoy:=HOK.out k hlt
   have hal0:=HAL.out k hk
   have hal1:=HAL.out (k + 1) (by omega)
   have hrk:=hr k hlt
   obtain ⟨y,hy⟩:∃ y,y = cs.getD k default:=⟨_,rfl⟩
   rw [← hy] at hrk hsn hoy
   have hos:=okC_small hoy
   have hfl:y.frm + y.len ≤ bs.length:=by rcases hoy with ⟨h1,h2,-⟩ | ⟨-,-,-,-,h5⟩ <;> omega
   rw [hsn,List.length_append,List.length_append] at hal1
   have HRK:=Hy hrk
   have HSNK:=Hy hsn
   have HSL:Hid ((ByteArray.mk bs.toArray).extract y.frm (y.frm + y.len) = ⟨((bs.drop y.frm).take y.len).toArray⟩):=ext_mid bs y.frm y.len
   have HALL:=Hy hal1
   clear hr hrk hy hoy hsn hal1
   generalize applyC bs (cs.take k) = pre at *
   go_wp2_with (first
    | (refine wpList_load_mid rfl 72 _ rfl bb (o + k * 3) rfl (encK y) _ HRK.out Tryz.underlying72 rfl (infoK y) ?_)
    | (refine wpList_store_whole rfl 72 _ _ rfl wr.heap.size (encK y).toArray rfl rfl 72 _ (Whole.made wr _ _) (infoK_s y) (by rfl) (encK_all y) ?_; intro w5 hWn hGn; have HW5:=Hy hWn; have D5:=Hy (made_below' hGn); have e0:=(hWn.at_ 0).trans (show _ = some (.string ⟨y.ins.toArray⟩) from rfl); clear hWn hGn))
   have hs5:=D5.out.size
   have hb5:b < w5.heap.size:=by omega
   refine (wstr_any b b pre y.ins w5 (hbd.out.later D5.out) (by have:=HALL.out; omega) (by omega)).mono ?_
   rintro e w6 ⟨rfl,hbd6,hB6,hK6⟩
   have HB6:=Hy (hwr.out.trans ((D5.out.mono hwr.out.size).trans (hB6.mono hsb)))
   have HC6:=Hy (hw3.out.trans ((D5.out.mono (by omega)).trans hB6))
   have HD6:=Hy hbd6.bd
   have hw6:=HW5.out.kept hK6 (by omega) (by decide)
   have g1:=(hw6.at_ 1).trans (show _ = some (.int .i64 y.frm) from rfl)
   have g2:=(hw6.at_ 2).trans (show _ = some (.int .i64 y.len) from rfl)
   have hs6:=hB6.size
   clear hbd6 hB6 hK6 hw6 HW5 D5 e0 hbd hw3 hwr
   go_wp2_with fail
   rw [HSL.out]
   refine (wstr_any b b (pre ++ y.ins) ((bs.drop y.frm).take y.len) w6 HD6.out (by have:=HALL.out; rw [List.length_append]; omega) (by omega)).mono ?_
   rintro e w7 ⟨rfl,hbd7,hB7,-⟩
   have HB7:=Hy (HB6.out.trans (hB7.mono hsb))
   have HC7:=Hy (HC6.out.trans hB7)
   have HD7:Hid (Bd w7 b b (applyC bs (cs.take (k + 1)))):=by show Bd _ _ _ _; rw [HSNK.out]; exact hbd7.bd
   have hs7:=hB7.size
   clear hbd7 hB7 HB6 HC6 HD6
   go_wp2
   go_roundg (cs.length - (k + 1))
   case measure=>omega
   case rel=>exact ⟨k + 1,by omega,Nat.le_refl _,by go_num,HB7,HC7,by omega,HD7⟩
  ·obtain rfl:k = cs.length:=by omega
   rw [List.take_length] at hbd
   go_wp2_with fail
   refine (bstr_any b b _ _ hbd.out (by omega)).mono ?_
   rintro e w9 ⟨rfl,hB9⟩
   have HB9:=Hy (hwr.out.trans (hB9.mono hsb))
   clear hB9
   go_wp2
   go_ret2
   exact ⟨rfl,HB9.out⟩
theorem dapply_other (base:Nat) (bs:List UInt8) (cs:List Ct) (w:World) (hok:∀ c ∈ cs,okC base c) (hb6:base ≤ 1000000) (hs6:sumC cs ≤ 1000000) (hne:base ≠ bs.length) :
  Calls Tryz.prog 17 #[.string ⟨bs.toArray⟩,.string ⟨(encD base cs).toArray⟩] w fun e w'=>e = .returned (.tuple #[.string ⟨#[]⟩,.int .i64 1]) ∧ Below w.heap.size w w':=by
 have HG:=Hy (dget_any base cs w hok hb6 hs6)
 have hn:((base:Int) != (bs.length:Int)) = true:=by simp; omega
 clear hok hne
 generalize encD base cs = s at *
 go_enter Tryz.func17,Tryz.ntmps17
 go_wp2_with fail
 refine HG.out.mono ?_
 rintro e w1 ⟨⟨A,c,rfl,-⟩,hb⟩
 have HB1:=Hy hb
 clear hb HG
 go_wp2
 go_ret2
 exact ⟨rfl,HB1.out⟩
end
section
open Go.RowKit
theorem alikeV_same (a b:List UInt8) (k:Nat) (h1:k < a.length) (h2:k < b.length) (h:a.getD k 0 = b.getD k 0):alikeV (a.drop k) (b.drop k) = alikeV (a.drop (k + 1)) (b.drop (k + 1)) + 1:=by
 rw [List.drop_eq_getElem_cons h1,List.drop_eq_getElem_cons h2]
 simp only [List.getD,List.getElem?_eq_getElem h1,List.getElem?_eq_getElem h2,Option.getD_some] at h
 simp only [alikeV]
 rw [if_pos h]
theorem alikeV_not (a b:List UInt8) (k:Nat) (h:¬ (k < a.length ∧ k < b.length ∧ a.getD k 0 = b.getD k 0)):alikeV (a.drop k) (b.drop k) = 0:=by
 by_cases h1:k < a.length
 ·by_cases h2:k < b.length
  ·rw [List.drop_eq_getElem_cons h1,List.drop_eq_getElem_cons h2]
   have h3:¬ a[k] = b[k]:=fun e=>h ⟨h1,h2,by simp [List.getD,List.getElem?_eq_getElem h1,List.getElem?_eq_getElem h2,e]⟩
   simp only [alikeV]
   rw [if_neg h3]
  ·rw [List.drop_eq_nil_of_le (show b.length ≤ k by omega)]
   cases a.drop k <;> rfl
 ·rw [List.drop_eq_nil_of_le (show a.length ≤ k by omega)]
  rfl
theorem dalike_any (a b:List UInt8) (ha:a.length ≤ 1000000) (w:World) :
  Calls Tryz.prog 92 #[.string ⟨a.toArray⟩,.string ⟨b.toArray⟩] w fun e w'=>e = .returned (.int .i64 (alikeV a b:Int)) ∧ ∃ q,w' = w.drewN q:=by
 go_enter Tryz.func92,Tryz.ntmps92
 go_wp2
 go_loopg [5] a.length (fun g s5 wr=>∃ k q:Nat,k ≤ a.length ∧ k ≤ b.length ∧ a.length - k ≤ g ∧ s5 = .int .i64 k ∧ Hid (wr = w.drewN q) ∧ Hid (k + alikeV (a.drop k) (b.drop k) = alikeV a b))
 case atStart=>exact ⟨0,0,Nat.zero_le _,Nat.zero_le _,by omega,rfl,Hy rfl,Hy (by rw [List.drop_zero,List.drop_zero,Nat.zero_add])⟩
 case round=>
  obtain ⟨k,q,hka,hkb,hg,rfl,hwr,hal⟩:=hrel
  by_cases h1:k < a.length
  ·have h1':(k:Int) < (a.length:Int):=by omega
   by_cases h2:k < b.length
   ·have h2':(k:Int) < (b.length:Int):=by omega
    have hia:=str_atN a k h1
    have hib:=str_atN b k h2
    by_cases h3:a.getD k 0 = b.getD k 0
    ·have HS:=Hy (alikeV_same a b k h1 h2 h3)
     have k3:(((a.getD k 0).toNat:Int) == ((b.getD k 0).toNat:Int)) = true:=by rw [h3]; simp
     clear h3
     generalize a.getD k 0 = x at *
     generalize b.getD k 0 = y at *
     go_wp2_with fail
     refine wp_region_quiet_lit (by kernel_rfl) (by kernel_rfl) ?_
     repeat (go_big_quiet_step (fail))
     refine wpQuiet_nil ?_
     rintro _ ⟨nq,rfl⟩
     go_wp2
     go_roundg (a.length - (k + 1))
     case measure=>omega
     case rel=>exact ⟨k + 1,q + nq,by omega,by omega,Nat.le_refl _,by go_num,Hy (by rw [hwr.out,World.drewN_drewN]),Hy (by have h9:=hal.out; rw [HS.out] at h9; omega)⟩
    ·have HS:=Hy (alikeV_not a b k (fun h=>h3 h.2.2))
     have k3:(((a.getD k 0).toNat:Int) == ((b.getD k 0).toNat:Int)) = false:=by
      rw [beq_eq_false_iff_ne]
      intro e
      exact h3 (UInt8.toNat_inj.1 (by omega))
     clear h3
     generalize a.getD k 0 = x at *
     generalize b.getD k 0 = y at *
     go_wp2_with fail
     refine wp_region_quiet_lit (by kernel_rfl) (by kernel_rfl) ?_
     repeat (go_big_quiet_step (fail))
     refine wpQuiet_nil ?_
     rintro _ ⟨nq,rfl⟩
     go_wp2
     go_ret
     refine ⟨?_,q + nq,by rw [hwr.out,World.drewN_drewN]⟩
     have h9:=hal.out
     rw [HS.out,Nat.add_zero] at h9
     rw [← h9]
     rfl
   ·have HS:=Hy (alikeV_not a b k (fun h=>h2 h.2.1))
    have h2':¬ (k:Int) < (b.length:Int):=by omega
    go_wp2_with fail
    refine wp_region_quiet_lit (by kernel_rfl) (by kernel_rfl) ?_
    repeat (go_big_quiet_step (fail))
    refine wpQuiet_nil ?_
    rintro _ ⟨nq,rfl⟩
    go_wp2
    go_ret
    refine ⟨?_,q + nq,by rw [hwr.out,World.drewN_drewN]⟩
    have h9:=hal.out
    rw [HS.out,Nat.add_zero] at h9
    rw [← h9]
    rfl
  ·have HS:=Hy (alikeV_not a b k (fun h=>h1 h.1))
   have h1':¬ (k:Int) < (a.length:Int):=by omega
   go_wp2_with fail
   refine wp_region_quiet_lit (by kernel_rfl) (by kernel_rfl) ?_
   repeat (go_big_quiet_step (fail))
   refine wpQuiet_nil ?_
   rintro _ ⟨nq,rfl⟩
   go_wp2
   go_ret
   refine ⟨?_,q + nq,by rw [hwr.out,World.drewN_drewN]⟩
   have h9:=hal.out
   rw [HS.out,Nat.add_zero] at h9
   rw [← h9]
   rfl
theorem take_min (t:List UInt8) (m:Nat) (h:m = min t.length 100):t.take m = t.take 100 ∧ t.drop m = t.drop 100:=by
 subst h
 rcases Nat.le_total t.length 100 with h | h
 ·rw [Nat.min_eq_left h,List.take_length,List.drop_length,List.take_of_length_le h,List.drop_eq_nil_of_le h]
  exact ⟨rfl,rfl⟩
 ·rw [Nat.min_eq_right h]
  exact ⟨rfl,rfl⟩
theorem ext_to (l:List UInt8) (n:Nat):(ByteArray.mk l.toArray).extract 0 n = ⟨(l.take n).toArray⟩:=by
 rw [ByteArray.extract_mk]
 simp
theorem ext_from (l:List UInt8) (n:Nat):(ByteArray.mk l.toArray).extract n l.length = ⟨(l.drop n).toArray⟩:=by
 rw [ByteArray.extract_mk]
 simp
 exact List.take_of_length_le (by rw [List.length_drop]; exact Nat.le_refl _)
theorem dinsert_any (B:Nat) (v:Value) (cs:List Ct) (t:List UInt8) (w:World) (hown:w.ownsRow B 72 3 v cs.length (cs.flatMap encK)) (hB:B ≤ w.heap.size) (hc:cs.length ≤ 1000000) (ht:t.length ≤ 1000000) :
  Calls Tryz.prog 93 #[v,.string ⟨t.toArray⟩] w fun e w'=>(∃ v',e = .returned v' ∧ w'.ownsRow B 72 3 v' (cs ++ insV t).length ((cs ++ insV t).flatMap encK)) ∧ Below B w w':=by
 go_enter Tryz.func93,Tryz.ntmps93
 go_wp2
 obtain ⟨A0,c0,rfl,-,-⟩:=own_argG eltK hown
 go_loopg [0,1,5] t.length (fun g s0 s1 _ wr=>∃ (l:List Ct) (u:List UInt8) (A9:Option Addr) (c9:Nat),s0 = .slice A9 l.length c9 ∧ u.length ≤ g ∧ u.length ≤ 1000000 ∧ l.length + u.length ≤ 2000000 ∧ s1 = .string ⟨u.toArray⟩ ∧ wr.ownsRow B 72 3 (.slice A9 l.length c9) l.length (l.flatMap encK) ∧ Hid (Below B w wr) ∧ Hid (l ++ insV u = cs ++ insV t))
 case atStart=>exact ⟨cs,t,A0,c0,rfl,Nat.le_refl _,ht,by omega,rfl,hown,Hy (Below.refl _ _),Hy rfl⟩
 case round=>
  rename World=>wr
  obtain ⟨l,u,A9,c9,rfl,hug,hu6,hlu,rfl,hown,hwr,heq⟩:=hrel
  by_cases h0:u = []
  ·subst h0
   have HE:Hid (l = cs ++ insV t):=by show _ = _; rw [← heq.out,insV_nil,List.append_nil]
   have HOW:=Hy hown
   clear hown
   go_wp2
   go_ret
   exact ⟨⟨_,rfl,by rw [← HE.out]; exact HOW.out⟩,hwr.out⟩
  ·have hu1:(u != []) = true:=by simpa using h0
   have hu2:(u == []) = false:=by simpa using h0
   have hpos:=List.length_pos_iff.2 h0
   obtain ⟨m,hm⟩:∃ m,m = min u.length 100:=⟨_,rfl⟩
   obtain ⟨ht1,ht2⟩:=take_min u m hm
   have HIN:=Hy (insV_cons u h0)
   have hml:m ≤ u.length:=by omega
   have hm1:1 ≤ m:=by omega
   have hmin:∀ W,(Builtin.min_ #[3,3] 3 #[.int .i64 (u.length:Int),.int .i64 100]).run Tryz.prog W = .ok (.int .i64 (m:Int)) W:=by
    intro W
    rw [run_min_int2]
    congr 2
    split <;> omega
   have HS1:Hid ((ByteArray.mk u.toArray).extract 0 m = ⟨(u.take 100).toArray⟩):=by show _ = _; rw [ext_to,ht1]
   have HS2:Hid ((ByteArray.mk u.toArray).extract m u.length = ⟨(u.drop 100).toArray⟩):=by show _ = _; rw [ext_from,ht2]
   have hdl:(u.drop 100).length = u.length - m:=by rw [← ht2,List.length_drop]
   have HDL:=Hy hdl
   have HOW:=Hy hown
   have HBX:Hid (Value.agg #[Value.string ((ByteArray.mk u.toArray).extract 0 m),.int .i64 0,.int .i64 0] = .agg (encK ⟨u.take 100,0,0⟩).toArray):=by show _ = _; rw [HS1.out]; rfl
   have HONE:Hid (ArgG encK default 3 (wr.alloc (.cells (encK ⟨u.take 100,0,0⟩).toArray 72)) (some ⟨wr.heap.size,0,none⟩) 1 [⟨u.take 100,0,0⟩]):=argG_one (Whole.made wr 72 (encK ⟨u.take 100,0,0⟩).toArray)
   have hz:=hwr.out.size
   have HZ5:Hid (B ≤ (wr.alloc (.cells (encK ⟨u.take 100,0,0⟩).toArray 72)).heap.size):=by show _ ≤ _; simp; omega
   have HLL:Hid (l.length + [(⟨u.take 100,0,0⟩:Ct)].length ≤ 10000000):=by show _ ≤ _; simp; omega
   have HBA:=Hy (hwr.out.alloc (by omega) (.cells (encK ⟨u.take 100,0,0⟩).toArray 72))
   have HEQ:Hid (l ++ [⟨u.take 100,0,0⟩] ++ insV (u.drop 100) = cs ++ insV t):=by show _ = _; rw [← heq.out,HIN.out,List.append_assoc]; rfl
   clear h0 ht1 ht2 hm hdl hown hwr heq
   go_wp2_with (first
    | (refine wpList_buildG eltK rfl _ rfl ⟨u.take 100,0,0⟩ HBX.out ?_)
    | (at_builtin; go_loud (refine wpList_appendG eltK rfl _ _ rfl B (.slice A9 l.length c9) l rfl (own_later HOW.out ((Below.refl _ _).alloc (Nat.le_refl _) _)) (some ⟨wr.heap.size,0,none⟩) 1 1 [⟨u.take 100,0,0⟩] rfl rfl HONE.out HZ5.out HLL.out ?_; intro v' w6 hown' hb6' _; have HOW6:=Hy hown'; have HB6:=Hy (HBA.out.trans hb6'); clear hown' hb6')))
   obtain ⟨A6,c6,rfl,-,-⟩:=own_argG eltK HOW6.out
   rw [HS2.out]
   go_roundg ((u.drop 100).length)
   case measure=>have:=HDL.out; omega
   case rel=>exact ⟨l ++ [⟨u.take 100,0,0⟩],u.drop 100,A6,c6,rfl,Nat.le_refl _,by have:=HDL.out; omega,by have:=HDL.out; rw [List.length_append,List.length_singleton]; omega,rfl,HOW6.out,HB6,HEQ⟩
end
section
open Go.RowKit Go.WideMaps Go.Maps
theorem lawS:Keyed Tryz.prog 9:=string_keyed Tryz.underlying9
theorem zeroI (w:World):(zeroValue 3).run Tryz.prog w = .ok (.int .i64 0) w:=by kernel_rfl
theorem keyS (s:List UInt8) (h:s.length ≤ maxLen):keyOf Tryz.prog 9 (.string ⟨s.toArray⟩) = some (.string s):=keyOf_string_mk Tryz.underlying9 (s:=⟨s.toArray⟩) (by simpa [ByteArray.size] using h)
def GoodD (b:List UInt8) (D:DataW Unit):Prop:=∀ s:List UInt8,Maps.has D (.string s) = true → ∃ a:Nat,D.atKey (.string s) (.lit (.int .i64 0)) = .lit (.int .i64 (a:Int)) ∧ a ≤ 100000 ∧ a + 8 ≤ b.length ∧ (b.drop a).take 8 = s
theorem GoodD.nil (b:List UInt8):GoodD b (.map []):=by
 intro s h
 simp [Maps.has] at h
theorem GoodD.put {b:List UInt8} {D:DataW Unit} (h:GoodD b D) (hm:IsMap D) (k:Nat) (h1:k ≤ 100000) (h2:k + 8 ≤ b.length) (hl:WideAt.IsKeyLit (.string ((b.drop k).take 8))):GoodD b (D.put (.string ((b.drop k).take 8)) (.lit (.int .i64 (k:Int)))):=by
 intro s hs
 by_cases e:s = (b.drop k).take 8
 ·subst e
  exact ⟨k,atKey_put_same hm hl _ _,h1,h2,rfl⟩
 ·have hne:(Lit.string s) ≠ .string ((b.drop k).take 8):=fun e'=>e (by injection e')
  rw [has_put_other hne] at hs
  obtain ⟨a,ha,hr⟩:=h s hs
  exact ⟨a,by rw [atKey_put_other hne]; exact ha,hr⟩
theorem own_isMap {P:Program} {k:TypeId} {R:Value → Option (DataW Unit × List MemPlace)} {b n:Nat} {D:DataW Unit} {w:World} (h:w.ownsMap P k R b n D):IsMap D:=by
 obtain ⟨es,clock,-,-,-,hD⟩:=h
 exact ⟨_,hD⟩
abbrev OwnW (w:World) (g n:Nat) (D:DataW Unit):Prop:=w.ownsMap Tryz.prog 9 (plainElem Tryz.prog 3) g n D
theorem dwin_any (b:List UInt8) (hb:b.length ≤ 1000000) (w:World) :
  Calls Tryz.prog 91 #[.string ⟨b.toArray⟩] w fun e w'=>e = .returned (.map (some w.heap.size)) ∧ (∃ n D,OwnW w' w.heap.size n D ∧ GoodD b D) ∧ Below w.heap.size w w':=by
 have hmm:=@run_makeMap Tryz.prog
 obtain ⟨mn,hmn,h1,h2⟩:∃ mn:Int,(if (b.length:Int) - 8 < 100000 then (b.length:Int) - 8 else 100000) = mn ∧ mn ≤ (b.length:Int) - 8 ∧ mn ≤ 100000:=by
  refine ⟨_,rfl,?_,?_⟩
  ·split <;> omega
  ·split <;> omega
 have hlo:-8 ≤ mn:=by
  rw [← hmn]
  split <;> omega
 have hmin:∀ W,(Builtin.min_ #[3,3] 3 #[.int .i64 100000,.int .i64 ((b.length:Int) - 8)]).run Tryz.prog W = .ok (.int .i64 mn) W:=fun W=>by rw [run_min_int2,hmn]
 have HM0:=Hy (World.ownsMap_made w Tryz.prog 9 (plainElem (H:=Unit) Tryz.prog 3))
 have HB0:=Hy ((Below.refl w.heap.size w).alloc (Nat.le_refl _) (.map #[] 0))
 clear hmn
 go_enter Tryz.func91,Tryz.ntmps91
 go_wp2
 generalize w.alloc (.map #[] 0) = w1 at *
 go_loopg [4,5,6,7,14] (mn + 1).toNat (fun g _ _ _ _ s14 wr=>∃ (k n:Nat) (D:DataW Unit),(k:Int) ≤ (mn + 1).toNat ∧ (mn + 1).toNat - k ≤ g ∧ n ≤ k ∧ s14 = .int .i64 k ∧ Hid (OwnW wr w.heap.size n D) ∧ Hid (GoodD b D) ∧ Hid (Below w.heap.size w wr))
 case atStart=>exact ⟨0,0,.map [],by omega,by omega,Nat.le_refl _,rfl,HM0,Hy (GoodD.nil b),HB0⟩
 case round=>
  rename World=>wr
  obtain ⟨k,n,D,hk,hg,hnk,rfl,hown,hgd,hwr⟩:=hrel
  by_cases hlt:(k:Int) < mn + 1
  ·have hk8:k + 8 ≤ b.length:=by omega
   have HS:Hid ((ByteArray.mk b.toArray).extract k (k + 8) = ⟨((b.drop k).take 8).toArray⟩):=ext_mid b k 8
   have hl8:((b.drop k).take 8).length = 8:=by rw [List.length_take,List.length_drop]; omega
   have HKEY:Hid (keyOf Tryz.prog 9 (.string ((ByteArray.mk b.toArray).extract k (k + 8))) = some (.string ((b.drop k).take 8))):=by show _ = _; rw [HS.out]; exact keyS _ (by rw [hl8]; unfold maxLen; omega)
   have HLIT:=Hy (lawS.key HKEY.out)
   have HIM:=Hy (own_isMap hown.out)
   clear hl8
   have hkn:(mn + 1).toNat ≤ 100001:=by omega
   cases hq:Maps.has D (.string ((b.drop k).take 8)) with
   | true=>
    go_wp2_with (at_lookup; refine wpList_lookup_own_ok_int _ rfl _ _ 157 rfl 9 3 .i64 lawS Tryz.underlying157 Tryz.underlying3 (zeroI _) w.heap.size n D rfl hown.out _ _ rfl HKEY.out ?_; intro cc hat hwc; clear hat hwc)
    go_roundg ((mn + 1).toNat - (k + 1))
    case measure=>omega
    case rel=>exact ⟨k + 1,n,D,by omega,Nat.le_refl _,by omega,by go_num,hown,hgd,hwr⟩
   | false=>
    go_wp2_with (first
     | (at_lookup; refine wpList_lookup_own_ok_int _ rfl _ _ 157 rfl 9 3 .i64 lawS Tryz.underlying157 Tryz.underlying3 (zeroI _) w.heap.size n D rfl hown.out _ _ rfl HKEY.out ?_; intro cc hat hwc; clear hat hwc)
     | (at_mapUpdate; refine wpList_mapUpdate_own _ rfl _ _ _ 157 rfl 9 3 lawS Tryz.underlying157 _ w.heap.size n D rfl hown.out (by unfold maxLen; omega) _ _ _ rfl rfl HKEY.out (.lit (.int .i64 (k:Int))) [] (plainElem_int Tryz.underlying3 (WalkArith.wf_i64 (by omega))) ?_; intro w2 hown2 hgr2; have HOW2:=Hy hown2; have HG2:=Hy hgr2; clear hown2 hgr2))
    have HGD:=Hy (hgd.out.put HIM.out k (by omega) hk8 HLIT.out)
    have HB2:=Hy (hwr.out.grown HG2.out hwr.out.size (fun j hj=>by injection hj with hj; omega))
    go_roundg ((mn + 1).toNat - (k + 1))
    case measure=>omega
    case rel=>exact ⟨k + 1,n + 1,_,by omega,Nat.le_refl _,by omega,by go_num,HOW2,HGD,HB2⟩
  ·have hn0:¬ (k:Int) < mn + 1:=hlt
   go_wp2
   go_ret
   exact ⟨rfl,⟨n,D,hown.out,hgd.out⟩,hwr.out⟩
end
section
open Go.RowKit
open Go.Maps
theorem mapM_each {α β:Type} (f:α → Option β):∀ (l:List α) (ys:List β),l.mapM f = some ys → ∀ a ∈ l,∃ y,f a = some y
 | [],_,_,a,ha=>absurd ha (by simp)
 | x :: l,ys,h,a,ha=>by
  rw [List.mapM_cons] at h
  cases hx:f x with
  | none=>rw [hx] at h; simp at h
  | some y=>
   rw [hx] at h
   cases hl:l.mapM f with
   | none=>rw [hl] at h; simp at h
   | some zs=>
    rcases List.mem_cons.1 ha with rfl | ha
    ·exact ⟨y,hx⟩
    ·exact mapM_each f l zs hl a ha
theorem byte_lits {d:Nat} {cs:List Value} {ls:List Lit} (h:Tryz.prog.keyLits (d + 1) 5 cs = some ls):∃ b:UInt8,cs = [Y b]:=by
 unfold Program.keyLits at h
 simp only [Tryz.underlying5] at h
 rcases cs with _ | ⟨v,_ | ⟨u,r⟩⟩
 ·simp at h
 ·cases v <;> simp at h
  rename_i q n
  obtain ⟨⟨rfl,hw⟩,-⟩:=h
  unfold Lit.wf at hw
  simp only [Bool.and_eq_true,decide_eq_true_eq] at hw
  have h1:(0:Int) ≤ n:=hw.1
  have h2:n ≤ (255:Int):=hw.2
  refine ⟨UInt8.ofNat n.toNat,?_⟩
  unfold Y
  have:(UInt8.ofNat n.toNat).toNat = n.toNat:=by
   rw [UInt8.toNat_ofNat']
   exact Nat.mod_eq_of_lt (by omega)
  rw [this,Int.toNat_of_nonneg h1]
 ·simp at h
theorem nm_shape {key:Value} {kl:Lit} (h:keyOf Tryz.prog 30 key = some kl):∃ x:Nm,key = .agg (encN x).toArray:=by
 unfold keyOf at h
 simp only [Tryz.underlying30] at h
 split at h
 ·rename_i hc
  rw [Bool.and_eq_true] at hc
  have hf:=hc.2
  cases key <;> try (unfold Value.formed at hf; simp [Tryz.underlying30] at hf; done)
  rename_i cs
  unfold Value.formed at hf
  simp only [Tryz.underlying30] at hf
  rw [nm_cells.1] at hf
  have hsz:cs.size = 32:=by simpa using hf
  obtain ⟨n,hn⟩:=succ_ex nm_row
  rw [hn] at h
  clear hn hf hc
  unfold Program.keyLits at h
  simp only [Tryz.underlying30] at h
  rw [nm_cells.1,nm_cells.2] at h
  change Option.map _ (if cs.toList.length = 32 then _ else none) = some kl at h
  rw [if_pos (by rw [Array.length_toList]; exact hsz),Option.map_map,Option.map_eq_some_iff] at h
  obtain ⟨ys,hys,-⟩:=h
  have hall:∀ i,i < 32 → ∃ b:UInt8,cs.toList[i]? = some (Y b):=fun i hi=>by
   obtain ⟨y,hy⟩:=mapM_each _ _ _ hys i (List.mem_range.2 hi)
   obtain ⟨b,hb⟩:=byte_lits hy
   have hi2:i < cs.toList.length:=by rw [Array.length_toList]; omega
   change List.take 1 (List.drop (i * 1) cs.toList) = _ at hb
   rw [Nat.mul_one,List.drop_eq_getElem_cons hi2,List.take_succ_cons,List.take_zero] at hb
   injection hb with hb
   exact ⟨b,by rw [List.getElem?_eq_getElem hi2,hb]⟩
  obtain ⟨g,hg⟩:∃ g:Nat → UInt8,∀ i,i < 32 → cs.toList[i]? = some (Y (g i)):=by
   obtain ⟨g,hg⟩:=Classical.axiomOfChoice (r:=fun (i:Nat) (b:UInt8)=>i < 32 → cs.toList[i]? = some (Y b)) (fun i=>by
    by_cases hi:i < 32
    ·obtain ⟨b,hb⟩:=hall i hi
     exact ⟨b,fun _=>hb⟩
    ·exact ⟨0,fun h=>absurd h hi⟩)
   exact ⟨g,hg⟩
  refine ⟨⟨(List.range 32).map g,by simp⟩,?_⟩
  congr 1
  apply Array.ext'
  show cs.toList = encN _
  apply List.ext_getElem?
  intro i
  by_cases hi:i < 32
  ·rw [hg i hi]
   simp [encN,hi]
  ·rw [List.getElem?_eq_none (by rw [Array.length_toList]; omega),List.getElem?_eq_none (by rw [encN_len]; omega)]
 ·cases h
theorem nm_inv {key:Value} {kl:Lit} (h:keyOf Tryz.prog 30 key = some kl):∃ x:Nm,key = .agg (encN x).toArray ∧ kl = klN x:=by
 obtain ⟨x,rfl⟩:=nm_shape h
 refine ⟨x,rfl,?_⟩
 have h1:=(klN_key x).symm.trans h
 injection h1 with h1
 exact h1.symm
theorem klN_str (x:Nm):∃ s,klN x = .string s:=by
 have h:=klN_key x
 unfold keyOf at h
 simp only [Tryz.underlying30] at h
 split at h
 ·rw [Option.map_eq_some_iff] at h
  obtain ⟨ls,-,h⟩:=h
  exact ⟨_,h.symm⟩
 ·cases h
theorem klN_same (x y:Nm):(klN x).sameKey (klN y) = decide (x = y):=by
 by_cases hxy:x = y
 ·subst hxy
  obtain ⟨s,hs⟩:=klN_str x
  rw [hs]
  simp [Lit.sameKey]
 ·have hne:klN x ≠ klN y:=fun e=>hxy (klN_inj e)
  obtain ⟨s,hs⟩:=klN_str x
  obtain ⟨t,ht⟩:=klN_str y
  rw [hs,ht] at hne ⊢
  rw [decide_eq_false hxy]
  simpa [Lit.sameKey] using hne
noncomputable abbrev intE:Value → Option (DataW Unit × List MemPlace):=plainElem (H:=Unit) Tryz.prog 3
def Reads (D:DataW Unit) (f:Nm → Option Nat):Prop:=∀ x,Maps.has D (klN x) = (f x).isSome ∧ D.atKey (klN x) (.lit (.int .i64 0)) = .lit (.int .i64 (((f x).getD 0:Nat):Int))
def OwnI (w:World) (b n:Nat) (f:Nm → Option Nat):Prop:=∃ D,w.ownsMap Tryz.prog 30 intE b n D ∧ Reads D f
def RangI (w:World) (b r n:Nat) (f:Nm → Option Nat) (ss:List Nm) (cnt:Nat):Prop:=∃ D left,w.ranges Tryz.prog 30 intE b r n D left cnt ∧ Reads D f ∧ (∀ x,x ∈ ss ↔ (f x).isSome = true ∧ left (klN x) = false) ∧ ss.length + cnt ≤ n
section
variable {w w' : World} {b r n cnt : Nat} {f : Nm → Option Nat} {ss : List Nm} {ops : Array Oper} {rest : List Oper} {o : Oper} {a : Act} {Q : Exit → Act → World → Prop}
theorem OwnI.made (w:World):OwnI (w.alloc (.map #[] 0)) w.heap.size 0 (fun _=>none):=⟨.map [],World.ownsMap_made _ _ _ _,fun x=>⟨by simp [Maps.has],rfl⟩⟩
theorem OwnI.lt (h:OwnI w b n f):b < w.heap.size:=by obtain ⟨D,h,-⟩:=h; exact h.lt
theorem OwnI.grown {row:Option Nat} (h:OwnI w b n f) (hg:w.grownBy w' row) (hne:some b ≠ row):OwnI w' b n f:=by
 obtain ⟨D,h,hv⟩:=h
 exact ⟨D,h.kept hg hne,hv⟩
theorem OwnI.same (h:OwnI w b n f) (he:w'.heap[b]? = w.heap[b]?):OwnI w' b n f:=by
 obtain ⟨D,⟨es,clock,hb,F,hs,hD⟩,hv⟩:=h
 exact ⟨D,⟨es,clock,he.trans hb,F,hs,hD⟩,hv⟩
theorem Reads.put {D:DataW Unit} (h:Reads D f) (hm:IsMap D) (x:Nm) (k:Nat):Reads (D.put (klN x) (.lit (.int .i64 (k:Int)))) (fun y=>if y = x then some k else f y):=by
 intro y
 by_cases hy:y = x
 ·subst hy
  rw [has_put_same hm (nm_keyed.key (klN_key y)),atKey_put_same hm (nm_keyed.key (klN_key y))]
  simp
 ·have hne:klN y ≠ klN x:=fun e=>hy (klN_inj e)
  rw [has_put_other hne,atKey_put_other hne]
  simp only [if_neg hy]
  exact h y
theorem wpList_updI (hg:o.guard = none) (m x v:Operand) (hop:o.op = Op.mapUpdate 187 m x v) (hm:a.eval m = .map (some b)) (h:OwnI w b n f) (hn:n < 1000000) (nm:Nm) (hx:a.eval x = .agg (encN nm).toArray) (k:Nat) (hk:k ≤ 1000000) (hv:a.eval v = .int .i64 (k:Int))
  (hK:∀ w',OwnI w' b (n + 1) (fun y=>if y = nm then some k else f y) → w.grownBy w' (some b) → wpList Tryz.prog ops Q rest (a.put o.dst undef) w'):wpList Tryz.prog ops Q (o :: rest) a w:=by
 obtain ⟨D,ho,hD⟩:=h
 exact wpList_mapUpdate_own w hg m x v _ hop 30 3 nm_keyed Tryz.underlying187 intE b n D hm ho (by unfold maxLen; omega) _ _ (klN nm) hx hv (klN_key nm) (.lit (.int .i64 (k:Int))) [] (plainElem_int Tryz.underlying3 (WalkArith.wf_i64 (by omega))) (fun w' h1 h2=>hK w' ⟨_,h1,hD.put (own_isMap ho) nm k⟩ h2)
theorem OwnI.look (h:OwnI w b n f) (x:Nm):(Instr.lookup 187 (.map (some b)) (.agg (encN x).toArray) false).run Tryz.prog w = .ok (.int .i64 (((f x).getD 0:Nat):Int)) w:=by
 obtain ⟨D,ho,hD⟩:=h
 obtain ⟨c,hrun,hat,-⟩:=ho.lookup_int nm_keyed Tryz.underlying187 Tryz.underlying3 (zeroI w) (klN_key x)
 rw [(hD x).2] at hat
 injection hat with hat
 injection hat with _ hat
 rw [hat]
 exact hrun
theorem OwnI.look2 (h:OwnI w b n f) (x:Nm):(Instr.lookup 187 (.map (some b)) (.agg (encN x).toArray) true).run Tryz.prog w = .ok (.tuple #[.int .i64 (((f x).getD 0:Nat):Int),.bool (f x).isSome]) w:=by
 obtain ⟨D,ho,hD⟩:=h
 obtain ⟨v,ps,hrun,hv⟩:=ho.look_ok nm_keyed Tryz.underlying187 (zeroI w) (zd:=.lit (.int .i64 0)) (zp:=[]) (plainElem_int Tryz.underlying3 (by decide)) (klN_key x)
 obtain ⟨c,rfl,hc,-⟩:=plainElem_int_inv Tryz.underlying3 hv
 have hat:=congrArg Prod.fst hc
 dsimp only at hat
 rw [(hD x).2] at hat
 injection hat with hat
 injection hat with _ hat
 rw [hrun,(hD x).1,hat]
theorem wpList_rangeI (hg:o.guard = none) (m:Operand) (hop:o.op = Op.range 187 m) (hm:a.eval m = .map (some b)) (h:OwnI w b n f)
  (hK:∀ w' cnt,RangI w' b w.heap.size n f [] cnt → w.grownBy w' none → w'.heap.size = w.heap.size + 1 → wpList Tryz.prog ops Q rest (a.put o.dst (.pointer (some ⟨w.heap.size,0,none⟩))) w'):wpList Tryz.prog ops Q (o :: rest) a w:=by
 obtain ⟨D,ho,hD⟩:=h
 refine wpList_range_own w hg m _ hop 30 3 nm_keyed Tryz.underlying187 intE b n D hm ho (fun w' h1 h2 h3=>hK w' (Maps.size D) ⟨D,_,h1,hD,fun x=>?_,?_⟩ h2 h3)
 ·rw [(hD x).1]
  cases (f x).isSome <;> simp
 ·simpa using ho.size_le
theorem RangI.owns (h:RangI w b r n f ss cnt):OwnI w b n f:=by
 obtain ⟨D,left,h,hD,-⟩:=h
 exact ⟨D,h.owns,hD⟩
theorem RangI.kept {row:Option Nat} (h:RangI w b r n f ss cnt) (hg:w.grownBy w' row) (h1:some b ≠ row) (h2:some r ≠ row):RangI w' b r n f ss cnt:=by
 obtain ⟨D,left,h,hD⟩:=h
 exact ⟨D,left,h.kept hg h1 h2,hD⟩
theorem wpList_nextI (hg:o.guard = none) (it:Operand) (hop:o.op = Op.next it false) (hit:a.eval it = .pointer (some ⟨r,0,none⟩)) (h:RangI w b r n f ss cnt)
  (hDone:(∀ x,x ∈ ss ↔ (f x).isSome = true) → wpList Tryz.prog ops Q rest (a.put o.dst (.tuple #[.bool false])) w)
  (hMore:∀ (x:Nm) (c:Int) (w':World) (cnt':Nat),RangI w' b r n f (ss ++ [x]) cnt' → cnt' < cnt → ss.length < n → w.grownBy w' (some r) → w'.heap.size = w.heap.size → (Instr.entry (.pointer (some ⟨r,0,none⟩))).run Tryz.prog w' = .ok (.tuple #[.agg (encN x).toArray,.int .i64 c]) w' → wpList Tryz.prog ops Q rest (a.put o.dst (.tuple #[.bool true,.agg (encN x).toArray,.int .i64 c])) w') :
  wpList Tryz.prog ops Q (o :: rest) a w:=by
 obtain ⟨D,left,h,hD,hss,hlen⟩:=h
 refine wpList_next_ranges w hg it hop 30 nm_keyed intE (fun x:Nm=>.agg (encN x).toArray) (Value.int .i64) (fun key kl hk=>by obtain ⟨x,hx,-⟩:=nm_inv hk; exact ⟨x,hx⟩) (fun v y hv=>by obtain ⟨c,rfl,-⟩:=plainElem_int_inv Tryz.underlying3 hv; exact ⟨c,rfl⟩) b r n D left cnt hit h (fun _ hl=>hDone fun x=>?_) (fun x c kl y w' cnt' hkey hlk _ hat hrg hlt hgr hsz hen=>?_)
 ·rw [hss x]
  simp [hl]
 ·have hkl:kl = klN x:=by
   have h1:=hkey.symm.trans (klN_key x)
   injection h1
  subst hkl
  have hx:(f x).isSome = true:=by
   rw [← (hD x).1]
   exact has_true_of_atKey hat
  refine hMore x c w' cnt' ⟨D,_,hrg,hD,fun y=>?_,?_⟩ hlt (by omega) hgr hsz hen
  ·rw [List.mem_append,List.mem_singleton,hss y]
   by_cases hy:y = x
   ·subst hy
    simp [hx,klN_same]
   ·simp [hy,klN_same]
  ·rw [List.length_append]
   simp
   omega
end
end
end Go.Proofs.YtlfmooihcigolaaGreatDoor
