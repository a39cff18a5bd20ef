/-
  PacM, PacA, BldF, PacB.
-/
import Derived.Test.YtlfmooihcigolaaGreatDoorMaj
import Derived.Lib.FrozenHead
set_option maxRecDepth 100000
set_option maxHeartbeats 8000000
namespace Go.Proofs.YtlfmooihcigolaaGreatDoor
open Go.RowKit
structure It where
 kind:Nat
 back:Nat
 base:Nm
 body:List UInt8
instance:Inhabited It:=⟨⟨0,0,default,[]⟩⟩
def wholeK (k:Nat):Prop:=k = 1 ∨ k = 2 ∨ k = 3
instance (k:Nat):Decidable (wholeK k):=by unfold wholeK; exact inferInstance
def okI (x:It) (ahead:Nat):Prop:=
 x.body.length ≤ 100000 ∧ ((wholeK x.kind ∧ x.back = 0 ∧ x.base = default) ∨ (x.kind = 6 ∧ 1 ≤ x.back ∧ x.back ≤ ahead ∧ x.base = default) ∨ (x.kind = 7 ∧ x.back = 0))
def okP (its:List It):Prop:=its.length ≤ 200 ∧ ∀ i,i < its.length → okI (its.getD i default) i
def midI (x:It):List UInt8:=if x.kind = 6 then numV x.back else if x.kind = 7 then x.base.l else []
def bytesI (x:It):List UInt8:=headV x.kind x.body.length ++ midI x ++ x.body
def markP:List UInt8:=[80,65,67,75]
def bodyP (its:List It):List UInt8:=markP ++ (numV its.length ++ its.flatMap bytesI)
def encP (its:List It):List UInt8:=bodyP its ++ ShaM.sha (bodyP its)
theorem okI.kinds {x:It} {a:Nat} (h:okI x a):x.kind = 1 ∨ x.kind = 2 ∨ x.kind = 3 ∨ x.kind = 6 ∨ x.kind = 7:=by
 rcases h.2 with ⟨h1 | h1 | h1,-⟩ | ⟨h1,-⟩ | ⟨h1,-⟩
 ·exact .inl h1
 ·exact .inr (.inl h1)
 ·exact .inr (.inr (.inl h1))
 ·exact .inr (.inr (.inr (.inl h1)))
 ·exact .inr (.inr (.inr (.inr h1)))
theorem headV_le (k n:Nat) (h:n ≤ 1000000):(headV k n).length ≤ 4:=textV_le 3 _ _ (by omega)
theorem bytesI_le {x:It} {a:Nat} (h:okI x a) (ha:a ≤ 200):(bytesI x).length ≤ 100036:=by
 have h1:=headV_le x.kind x.body.length (by have:=h.1; omega)
 have h2:(midI x).length ≤ 32:=by
  unfold midI
  split
  ·rcases h.2 with ⟨-,h3,-⟩ | ⟨-,-,h3,-⟩ | ⟨-,h3⟩
   ·have:=numV_le x.back (by omega); omega
   ·have:=numV_le x.back (by omega); omega
   ·have:=numV_le x.back (by omega); omega
  ·split
   ·exact Nat.le_of_eq x.base.h
   ·simp
 have h3:=h.1
 unfold bytesI
 rw [List.length_append,List.length_append]
 omega
theorem flatI_snoc (its:List It) (k:Nat) (h:k < its.length):(its.take (k + 1)).flatMap bytesI = (its.take k).flatMap bytesI ++ bytesI (its.getD k default):=by
 rw [List.take_succ_eq_append_getElem h,List.flatMap_append]
 simp [List.getD,List.getElem?_eq_getElem h]
theorem flatI_drop (its:List It) (k:Nat) (h:k < its.length):(its.drop k).flatMap bytesI = bytesI (its.getD k default) ++ (its.drop (k + 1)).flatMap bytesI:=by
 rw [List.drop_eq_getElem_cons h,List.flatMap_cons]
 simp [List.getD,List.getElem?_eq_getElem h]
theorem okP.le {its:List It} (h:okP its) (k:Nat) (hk:k ≤ its.length):((its.take k).flatMap bytesI).length ≤ k * 100036:=by
 induction k with
 | zero=>rw [List.take_zero,List.flatMap_nil]; exact Nat.zero_le _
 | succ k ih=>
  have ih:=ih (by omega)
  have:=bytesI_le (h.2 k (by omega)) (by have:=h.1; omega)
  rw [flatI_snoc its k (by omega),List.length_append]
  omega
theorem okP.all {its:List It} (h:okP its):(its.flatMap bytesI).length ≤ 20007200:=by
 have h1:=h.le its.length (Nat.le_refl _)
 rw [List.take_length] at h1
 exact Nat.le_trans h1 (Nat.le_trans (Nat.mul_le_mul_right _ h.1) (Nat.le_refl _))
theorem okP.body {its:List It} (h:okP its):(bodyP its).length ≤ 20100000:=by
 have h1:=h.all
 have h2:=numV_le its.length (by have:=h.1; omega)
 unfold bodyP
 rw [List.length_append,List.length_append]
 show 4 + _ ≤ _
 omega
theorem numV_pos (n:Nat):0 < (numV n).length:=textV_pos _ _
theorem bodyP_ge (its:List It):5 ≤ (bodyP its).length:=by
 have:=numV_pos its.length
 unfold bodyP
 rw [List.length_append,List.length_append]
 show 5 ≤ 4 + _
 omega
def encI (x:It):List Value:=[.int .i64 (x.kind:Int),.int .i64 (x.back:Int)] ++ encN x.base ++ [.string ⟨x.body.toArray⟩]
theorem encI_len (x:It):(encI x).length = 35:=by simp [encI,encN_len]
theorem encI_one (x:It):∀ v ∈ encI x,v.oneCell' = true:=by
 intro v hv
 simp only [encI,List.mem_append,List.mem_cons,List.not_mem_nil,or_false] at hv
 rcases hv with ((rfl | rfl) | h) | rfl
 ·rfl
 ·rfl
 ·exact encN_one _ v h
 ·rfl
theorem encI_size (x:It):(encI x).toArray.size = 35:=by rw [List.size_toArray,encI_len]
theorem encI_all (x:It):(encI x).toArray.all (·.oneCell') = true:=all_oneCell_toArray (encI_one x)
theorem encI_0 (x:It):(encI x).toArray[0]? = some (.int .i64 (x.kind:Int)):=rfl
theorem encI_1 (x:It):(encI x).toArray[1]? = some (.int .i64 (x.back:Int)):=rfl
theorem encI_34 (x:It):(encI x).toArray[34]? = some (.string ⟨x.body.toArray⟩):=by
 rw [List.getElem?_toArray]
 unfold encI
 rw [List.getElem?_append_right (by simp [encN_len])]
 simp [encN_len]
theorem str_bytes (s:List UInt8) (w:World) (hlen:s.length ≤ maxLen):∃ c w1,(convert 9 63 (.string ⟨s.toArray⟩)).run Tryz.prog w = .ok (.slice (some ⟨w.heap.size,0,none⟩) s.length c) w1 ∧ Bytes w1 (.slice (some ⟨w.heap.size,0,none⟩) s.length c) s ∧ Below w.heap.size w w1:=by
 have hrun:=run_bytes_of_string (P:=Tryz.prog) w 9 63 5 ⟨s.toArray⟩ Tryz.underlying9 Tryz.underlying63 Tryz.underlying5
 have hsz:(ByteArray.mk s.toArray).size = s.length:=by simp [ByteArray.size]
 have hge:=grownCap_ge w (ByteArray.mk s.toArray).size 0 5
 have hle:=grownCap_le_maxLen w (ByteArray.mk s.toArray).size 0 5 (by rw [hsz]; exact hlen)
 rw [hsz] at hrun hge hle
 generalize grownCap w s.length 0 5 = c at *
 refine ⟨c,_,hrun,⟨_,c,rfl,hge,hle,fun _=>⟨_,_,rfl,fun i hi=>?_⟩⟩,((Below.refl _ _).drew).alloc (Nat.le_refl _) _⟩
 rw [Nat.zero_add]
 have hh:(w.drew.alloc (.cells (bytesRow ⟨s.toArray⟩ c) 5 ((bytesRow ⟨s.toArray⟩ c).size,(bytesRow ⟨s.toArray⟩ c).size + 1))).heap[w.heap.size]? = some (.cells (bytesRow ⟨s.toArray⟩ c) 5 ((bytesRow ⟨s.toArray⟩ c).size,(bytesRow ⟨s.toArray⟩ c).size + 1)):=by
  show (w.heap.push _)[w.heap.size]? = _
  simp
 rw [cell_of_row _ _ i _ _ _ hh]
 simp only [bytesRow]
 rw [Array.getElem?_append_left (by simpa using hi)]
 simp [Y,List.getElem?_eq_getElem hi]
theorem eql_zero (x:Nm) (W:World):(binOp .eql 30 (.agg (encN x).toArray) (.agg #[Z8,Z8,Z8,Z8,Z8,Z8,Z8,Z8,Z8,Z8,Z8,Z8,Z8,Z8,Z8,Z8,Z8,Z8,Z8,Z8,Z8,Z8,Z8,Z8,Z8,Z8,Z8,Z8,Z8,Z8,Z8,Z8])).run Tryz.prog W = .ok (.bool (decide (x = default))) W:=eql_nm x default W
theorem infoN_l (x:Nm):(Tryz.prog.info? 30).map (·.size) = some (encN x).length:=by rw [encN_len]; exact infoN
theorem infoI (x:It):(Tryz.prog.info? 34).map (·.size) = some (encI x).length:=by rw [encI_len]; kernel_rfl
theorem infoI_s (x:It):(Tryz.prog.info? 34).map (·.size) = some (encI x).toArray.size:=by rw [encI_size]; kernel_rfl
theorem eltI:Elt 34 38 35 encI default where
 len:=encI_len
 one:=encI_one
 pos:=by decide
 small:=by decide
 und:=Tryz.underlying38
 info:=by
  have h:(Tryz.prog.info? 34).map (fun i=>(i.zero,i.size,decide (i.bytes ≤ 4096))) = some (some (.agg (encI default).toArray),35,true):=by kernel_rfl
  cases hq:Tryz.prog.info? 34 with
  | none=>rw [hq] at h; cases h
  | some i=>
   rw [hq] at h
   simp only [Option.map_some,Option.some.injEq,Prod.mk.injEq,decide_eq_true_eq] at h
   exact ⟨i,rfl,h.1,h.2.1,h.2.2⟩
 szo:=Tryz.sizeOf34
 zero:=fun w=>by kernel_rfl
theorem itm_kind {w:World} {g:Nat} {t:TypeId} {x:It} (h:Whole w g t (encI x).toArray):w.cell? ⟨g,0,none⟩ = some (.int .i64 (x.kind:Int)):=(h.at_ 0).trans (encI_0 x)
theorem itm_back {w:World} {g:Nat} {t:TypeId} {x:It} (h:Whole w g t (encI x).toArray):w.cell? ⟨g,1,none⟩ = some (.int .i64 (x.back:Int)):=(h.at_ 1).trans (encI_1 x)
theorem itm_body {w:World} {g:Nat} {t:TypeId} {x:It} (h:Whole w g t (encI x).toArray):w.cell? ⟨g,34,none⟩ = some (.string ⟨x.body.toArray⟩):=(h.at_ 34).trans (encI_34 x)
theorem encI_base (x:It) (j:Nat) (v:Value) (hv:(encN x.base)[j]? = some v):(encI x)[2 + j]? = some v:=by
 unfold encI
 have hj:=(List.getElem?_eq_some_iff.1 hv).1
 rw [List.append_assoc,List.getElem?_append_right (by simp),List.getElem?_append_left (by simp; omega)]
 simpa using hv
theorem itm_base {w:World} {g:Nat} {t:TypeId} {x:It} (h:Whole w g t (encI x).toArray):w.rangeAt g 2 (encN x.base):=by
 intro j v hv
 rw [h.at_,List.getElem?_toArray]
 exact encI_base x j v hv
theorem ibox (x:It) (w:World):Whole (w.alloc (.cells (encI x).toArray 34)) w.heap.size 34 (encI x).toArray ∧ Below w.heap.size w (w.alloc (.cells (encI x).toArray 34)):=
 ⟨Whole.made w _ _,(Below.refl _ _).alloc (Nat.le_refl _) _⟩
theorem pwhole_any (k:Nat) (w:World):Calls Tryz.prog 102 #[.int .i64 (k:Int)] w fun e w'=>e = .returned (.bool (decide (wholeK k))) ∧ w = w':=by
 by_cases h1:k = 1
 ·subst h1
  go_enter Tryz.func102,Tryz.ntmps102
  go_wp2
  go_ret
  exact ⟨rfl,rfl⟩
 by_cases h2:k = 2
 ·subst h2
  go_enter Tryz.func102,Tryz.ntmps102
  go_wp2
  go_ret
  exact ⟨rfl,rfl⟩
 by_cases h3:k = 3
 ·subst h3
  go_enter Tryz.func102,Tryz.ntmps102
  go_wp2
  go_ret
  exact ⟨rfl,rfl⟩
 have k1:((k:Int) == 1) = false:=by simp; omega
 have k2:((k:Int) == 2) = false:=by simp; omega
 have k3:((k:Int) == 3) = false:=by simp; omega
 have hd:Hid (decide (wholeK k) = false):=decide_eq_false (by unfold wholeK; omega)
 go_enter Tryz.func102,Tryz.ntmps102
 go_wp2
 go_ret
 exact ⟨by rw [hd.out]; rfl,rfl⟩
theorem pback_any (b a:Nat) (w:World):Calls Tryz.prog 103 #[.int .i64 (b:Int),.int .i64 (a:Int)] w fun e w'=>e = .returned (.bool (decide (1 ≤ b) && decide (b ≤ a))) ∧ w = w':=by
 have e1:decide ((1:Int) ≤ (b:Int)) = decide (1 ≤ b):=by rw [decide_eq_decide]; omega
 have e2:decide ((b:Int) ≤ (a:Int)) = decide (b ≤ a):=by rw [decide_eq_decide]; omega
 cases h:decide (1 ≤ b)
 all_goals
  rw [h] at e1
  go_enter Tryz.func103,Tryz.ntmps103
  go_wp2
  go_ret
  exact ⟨by simp,rfl⟩
theorem pmay_any (x:It) (a:Nat) (w:World) (h:okI x a):Calls Tryz.prog 55 #[.agg (encI x).toArray,.int .i64 (a:Int)] w fun e w'=>e = .returned (.bool true) ∧ Below w.heap.size w w':=by
 obtain ⟨hW,hB⟩:=ibox x w
 have HW:=Hy hW
 have HB:=Hy hB
 have e0:=itm_kind hW
 have e1:=itm_back hW
 have e3:=itm_body hW
 have HR:=Hy (itm_base hW)
 have HIX:=Hy (infoI_s x)
 have hlen:¬ ((x.body.length:Int) > 100000):=by have:=h.1; omega
 have kb:decide ((x.body.length:Int) > 100000) = false:=decide_eq_false hlen
 have hk:=h.2
 clear hW hB h hlen
 have hez:=fun W=>eql_zero x.base W
 generalize (encI x).toArray = cs at *
 rcases hk with ⟨h1,h2,h3⟩ | ⟨h1,h2,h3,h4⟩ | ⟨h1,h2⟩
 ·have HWH:=Hy fun W=>pwhole_any x.kind W
  rw [decide_eq_true h1] at HWH
  rw [h2] at e1
  rw [decide_eq_true h3] at hez
  clear h1 h2 h3
  go_enter Tryz.func55,Tryz.ntmps55
  go_wp2_with (first
   | (refine wpList_load_mid rfl 30 _ rfl w.heap.size 2 rfl (encN x.base) _ HR.out Tryz.underlying30 rfl (infoN_l _) ?_)
   | (go_at_call 102; refine (HWH.out _).mono ?_; rintro e w' ⟨rfl,rfl⟩))
  go_ret
  exact ⟨rfl,HB.out⟩
 ·have HWH:=Hy fun W=>pwhole_any x.kind W
  have HBK:=Hy fun W=>pback_any x.back a W
  rw [decide_eq_true h2,decide_eq_true h3] at HBK
  rw [decide_eq_false (by unfold wholeK; omega)] at HWH
  rw [h1] at e0 HWH
  rw [decide_eq_true h4] at hez
  clear h1 h2 h3 h4
  go_enter Tryz.func55,Tryz.ntmps55
  go_wp2_with (first
   | (refine wpList_load_mid rfl 30 _ rfl w.heap.size 2 rfl (encN x.base) _ HR.out Tryz.underlying30 rfl (infoN_l _) ?_)
   | (go_at_call 102; refine (HWH.out _).mono ?_; rintro e w' ⟨rfl,rfl⟩)
   | (go_at_call 103; refine (HBK.out _).mono ?_; rintro e w' ⟨rfl,rfl⟩))
  go_ret
  exact ⟨rfl,HB.out⟩
 ·have HWH:=Hy fun W=>pwhole_any x.kind W
  rw [decide_eq_false (by unfold wholeK; omega)] at HWH
  rw [h1] at e0 HWH
  rw [h2] at e1
  clear h1 h2
  go_enter Tryz.func55,Tryz.ntmps55
  go_wp2_with (first
   | (refine wpList_load_mid rfl 30 _ rfl w.heap.size 2 rfl (encN x.base) _ HR.out Tryz.underlying30 rfl (infoN_l _) ?_)
   | (go_at_call 102; refine (HWH.out _).mono ?_; rintro e w' ⟨rfl,rfl⟩))
  go_ret
  exact ⟨rfl,HB.out⟩
theorem psum_any (s:List UInt8) (w:World) (hTab:Tabs w) (hl:s.length ≤ 100000000):Calls Tryz.prog 57 #[.string ⟨s.toArray⟩] w fun e w'=>e = .returned (.string ⟨(ShaM.sha s).toArray⟩) ∧ Below w.heap.size w w':=by
 have hl1:=hTab.lt1
 have hl2:=hTab.lt2
 have HTab:=Hy hTab
 clear hTab
 obtain ⟨c,w1,hcv,hby,hbe⟩:=str_bytes s w (by unfold maxLen; omega)
 have HBY:=Hy hby
 have HBE:=Hy hbe
 clear hby hbe
 go_enter Tryz.func57,Tryz.ntmps57
 go_wp2_with fail
 refine (sum_any _ s w1 (HTab.out.below HBE.out hl1 hl2) HBY.out (by omega)).mono ?_
 rintro e w2 ⟨rfl,hb2⟩
 obtain ⟨oc,hoc⟩:∃ oc,oc = ((ShaM.sha s).map Y).toArray:=⟨_,rfl⟩
 rw [← hoc]
 have hos:oc.size = 32:=by rw [hoc,List.size_toArray,List.length_map]; rfl
 have HOI:Hid ((Tryz.prog.info? 29).map (·.size) = some oc.size):=by show _ = _; rw [hos]; kernel_rfl
 have HO1:Hid (oc.all (·.oneCell') = true):=by show _ = _; rw [hoc]; exact ys_all _
 have HB2:=Hy (hTr HBE hb2)
 have HOC:=Hy hoc
 clear hoc hos hb2
 have HOS:Hid (oc.size = 32):=by show _ = _; rw [HOC.out,List.size_toArray,List.length_map]; rfl
 have hLN:=ShaM.sha_len s
 go_upto_region 2 with (refine wpList_store_whole rfl 29 _ _ rfl w2.heap.size oc rfl rfl 29 _ (Whole.made w2 _ _) HOI.out HOS.out.symm HO1.out ?_; intro w3 hWn hGn; have HW3:=Hy hWn; have D3:=Hy (made_below' hGn); clear hWn hGn)
 have HB3:=Hy (hTr HB2 D3.out)
 have hby3:Bytes w3 (.slice (some ⟨w2.heap.size,0,none⟩) 32 32) (ShaM.sha s):=⟨_,32,by rw [hLN],Nat.le_of_eq hLN,by decide,fun _=>⟨_,_,rfl,fun i hi=>by
  rw [Nat.zero_add,HW3.out.at_ i,HOC.out,List.getElem?_toArray,List.getElem?_map,List.getElem?_eq_getElem hi]
  simp [List.getElem?_eq_getElem hi]⟩⟩
 have hcv3:=bytes_str (P:=Tryz.prog) 63 9 5 Tryz.underlying63 Tryz.underlying5 Tryz.underlying9 hby3
 clear hby3 hcv
 go_wp2
 go_ret
 exact ⟨rfl,HB3.out⟩
theorem pputitem_any (x:It) (a B b:Nat) (l:List UInt8) (w:World) (h:okI x a) (ha:a ≤ 200) (hl:l.length ≤ 1000000000) (hbd:Bd w B b l) (hB:B ≤ w.heap.size) (hbl:b < w.heap.size) :
  Calls Tryz.prog 56 #[.pointer (some ⟨b,0,none⟩),.agg (encI x).toArray] w fun e w'=>e = .returned (.tuple #[]) ∧ Bd w' B b (l ++ bytesI x) ∧ Below B w w':=by
 obtain ⟨hW,hBx⟩:=ibox x w
 have HW:=Hy hW
 have HB:=Hy (hBx.mono hB)
 have HD:=Hy (hbd.later hBx)
 have hs1:B ≤ (w.alloc (.cells (encI x).toArray 34)).heap.size:=by simp; omega
 have hwlt:=hW.lt
 have hbd9:=h.1
 have HH:=Hy fun W=>vhead_any x.kind x.body.length h.kinds (by omega) W
 have hhl:=headV_le x.kind x.body.length (by omega)
 have hBI:Hid (bytesI x = headV x.kind x.body.length ++ midI x ++ x.body):=rfl
 have hMI:Hid (midI x = if x.kind = 6 then numV x.back else if x.kind = 7 then x.base.l else []):=rfl
 have K0:=Hy fun W (h:Whole W w.heap.size 34 (encI x).toArray)=>itm_kind h
 have K1:=Hy fun W (h:Whole W w.heap.size 34 (encI x).toArray)=>itm_back h
 have K3:=Hy fun W (h:Whole W w.heap.size 34 (encI x).toArray)=>itm_body h
 have K2:=Hy fun W (h:Whole W w.heap.size 34 (encI x).toArray)=>itm_base h
 have hk:=h.2
 clear hW hBx hbd h
 generalize (encI x).toArray = cs at *
 generalize hw1:w.alloc (.cells cs 34) = w1 at *
 have hgb:w.heap.size ≠ b:=by omega
 generalize hhv:headV x.kind x.body.length = hd at *
 rcases hk with ⟨h1,h2,h3⟩ | ⟨h1,h2,h3,h4⟩ | ⟨h1,h2⟩
 ·have k6:((x.kind:Int) == 6) = false:=by unfold wholeK at h1; simp; omega
  have k7:((x.kind:Int) == 7) = false:=by unfold wholeK at h1; simp; omega
  have n6:Hid (¬ x.kind = 6):=by show ¬ _; unfold wholeK at h1; omega
  have n7:Hid (¬ x.kind = 7):=by show ¬ _; unfold wholeK at h1; omega
  clear h1 h2 h3
  have e0:=K0.out w1 HW.out
  have e3:=K3.out w1 HW.out
  go_enter Tryz.func56,Tryz.ntmps56
  go_wp2_with fail
  refine (HH.out _).mono ?_
  rintro e w2 ⟨rfl,hb2⟩
  have HB2:=Hy (HB.out.trans (hb2.mono hs1))
  have HD2:=Hy (HD.out.later hb2)
  have HW2:=Hy (HW.out.below hb2 hwlt)
  have hs2:=hb2.size
  clear hb2 HH HD HW HB e0 e3
  have e0:=K0.out w2 HW2.out
  have e3:=K3.out w2 HW2.out
  go_wp2_with fail
  refine (wstr_any B b l hd w2 HD2.out (by omega) (by omega)).mono ?_
  rintro e w3 ⟨rfl,hbd3,hB3,hK3⟩
  have HD3:=Hy hbd3.bd
  have HB3:=Hy (HB2.out.trans hB3)
  have HW3:=Hy (HW2.out.kept hK3 hgb (by decide))
  have hs3:=hB3.size
  clear hbd3 hB3 hK3 HB2 HD2 HW2 e0 e3
  have e0:=K0.out w3 HW3.out
  have e3:=K3.out w3 HW3.out
  go_wp2_with fail
  refine (wstr_any B b (l ++ hd) x.body w3 HD3.out (by simp; omega) (by omega)).mono ?_
  rintro e w9 ⟨rfl,hbd9,hB9,hK9⟩
  have HD9:=Hy hbd9.bd
  have HB9:=Hy (HB3.out.trans hB9)
  clear hbd9 hB9 hK9
  go_wp2
  refine bodyPost_end (results_none rfl _ _ _) rfl ⟨rfl,?_,HB9.out⟩
  have h9:=HD9.out
  rw [hBI.out,hMI.out,if_neg n6.out,if_neg n7.out]
  simpa [List.append_assoc] using h9
 ·rw [h1] at K0 HH
  have n6:Hid (x.kind = 6):=h1
  have HN:=Hy fun W=>vput_any x.back (by omega) W
  have hnl:=numV_le x.back (by omega)
  clear h1 h3 h4
  have e0:=K0.out w1 HW.out
  have e3:=K3.out w1 HW.out
  go_enter Tryz.func56,Tryz.ntmps56
  go_wp2_with fail
  refine (HH.out _).mono ?_
  rintro e w2 ⟨rfl,hb2⟩
  have HB2:=Hy (HB.out.trans (hb2.mono hs1))
  have HD2:=Hy (HD.out.later hb2)
  have HW2:=Hy (HW.out.below hb2 hwlt)
  have hs2:=hb2.size
  clear hb2 HH HD HW HB e0 e3
  have e0:=K0.out w2 HW2.out
  have e3:=K3.out w2 HW2.out
  go_wp2_with fail
  refine (wstr_any B b l hd w2 HD2.out (by omega) (by omega)).mono ?_
  rintro e w3 ⟨rfl,hbd3,hB3,hK3⟩
  have HD3:=Hy hbd3.bd
  have HB3:=Hy (HB2.out.trans hB3)
  have HW3:=Hy (HW2.out.kept hK3 hgb (by decide))
  have hs3:=hB3.size
  clear hbd3 hB3 hK3 HB2 HD2 HW2 e0 e3
  have e0:=K0.out w3 HW3.out
  have e3:=K3.out w3 HW3.out
  have e1:=K1.out w3 HW3.out
  go_wp2_with fail
  refine (HN.out _).mono ?_
  rintro e w4 ⟨rfl,hb4⟩
  have HB4:=Hy (HB3.out.trans (hb4.mono (by omega)))
  have HD4:=Hy (HD3.out.later hb4)
  have HW4:=Hy (HW3.out.below hb4 (by omega))
  have hs4:=hb4.size
  clear hb4 HN HD3 HW3 HB3 e0 e3 e1
  go_wp2_with fail
  refine (wstr_any B b (l ++ hd) (numV x.back) w4 HD4.out (by simp; omega) (by omega)).mono ?_
  rintro e w5 ⟨rfl,hbd5,hB5,hK5⟩
  have HD5:=Hy hbd5.bd
  have HB5:=Hy (HB4.out.trans hB5)
  have HW5:=Hy (HW4.out.kept hK5 hgb (by decide))
  have hs5:=hB5.size
  clear hbd5 hB5 hK5 HB4 HD4 HW4
  have e3:=K3.out w5 HW5.out
  go_wp2_with fail
  refine (wstr_any B b (l ++ hd ++ numV x.back) x.body w5 HD5.out (by simp; omega) (by omega)).mono ?_
  rintro e w9 ⟨rfl,hbd9,hB9,hK9⟩
  have HD9:=Hy hbd9.bd
  have HB9:=Hy (HB5.out.trans hB9)
  clear hbd9 hB9 hK9
  go_wp2
  refine bodyPost_end (results_none rfl _ _ _) rfl ⟨rfl,?_,HB9.out⟩
  have h9:=HD9.out
  rw [hBI.out,hMI.out,if_pos n6.out]
  simpa [List.append_assoc] using h9
 ·rw [h1] at K0 HH
  have n6:Hid (¬ x.kind = 6):=by show ¬ _; omega
  have n7:Hid (x.kind = 7):=h1
  clear h1 h2
  have e0:=K0.out w1 HW.out
  have e3:=K3.out w1 HW.out
  go_enter Tryz.func56,Tryz.ntmps56
  go_wp2_with fail
  refine (HH.out _).mono ?_
  rintro e w2 ⟨rfl,hb2⟩
  have HB2:=Hy (HB.out.trans (hb2.mono hs1))
  have HD2:=Hy (HD.out.later hb2)
  have HW2:=Hy (HW.out.below hb2 hwlt)
  have hs2:=hb2.size
  clear hb2 HH HD HW HB e0 e3
  have e0:=K0.out w2 HW2.out
  have e3:=K3.out w2 HW2.out
  go_wp2_with fail
  refine (wstr_any B b l hd w2 HD2.out (by omega) (by omega)).mono ?_
  rintro e w3 ⟨rfl,hbd3,hB3,hK3⟩
  have HD3:=Hy hbd3.bd
  have HB3:=Hy (HB2.out.trans hB3)
  have HW3:=Hy (HW2.out.kept hK3 hgb (by decide))
  have hs3:=hB3.size
  clear hbd3 hB3 hK3 HB2 HD2 HW2 e0 e3
  have e0:=K0.out w3 HW3.out
  have e3:=K3.out w3 HW3.out
  have hbl2:=x.base.h
  have HWR:=Hy (wrow_any B b (l ++ hd) x.base.l ⟨w.heap.size,2,none⟩ 32 w3 HD3.out (by simp; omega) (by omega) (by
   intro w9 _ hK9 j u hu
   rw [Addr.add_mid]
   exact K2.out w9 (HW3.out.kept hK9 hgb (by decide)) j u hu))
  rw [x.base.h] at HWR
  go_wp2_with fail
  refine HWR.out.mono ?_
  rintro e w5 ⟨rfl,hbd5,hB5,hK5⟩
  have HD5:=Hy hbd5.bd
  have HB5:=Hy (HB3.out.trans hB5)
  have HW5:=Hy (HW3.out.kept hK5 hgb (by decide))
  have hs5:=hB5.size
  clear hbd5 hB5 hK5 HB3 HD3 HW3 HWR e0 e3
  have e3:=K3.out w5 HW5.out
  go_wp2_with fail
  refine (wstr_any B b (l ++ hd ++ x.base.l) x.body w5 HD5.out (by simp; omega) (by omega)).mono ?_
  rintro e w9 ⟨rfl,hbd9,hB9,hK9⟩
  have HD9:=Hy hbd9.bd
  have HB9:=Hy (HB5.out.trans hB9)
  clear hbd9 hB9 hK9
  go_wp2
  refine bodyPost_end (results_none rfl _ _ _) rfl ⟨rfl,?_,HB9.out⟩
  have h9:=HD9.out
  rw [hBI.out,hMI.out,if_neg n6.out,if_pos n7.out]
  simpa [List.append_assoc] using h9
def BdFU (w:World) (B b:Nat) (l:List UInt8):Prop:=Lib.BuilderAtF BT 5 B b (.pointer (some ⟨b,0,none⟩)) (l.map Y) w
def BdF (w:World) (B b:Nat) (l:List UInt8):Prop:=Lib.IsBuilderF BT 5 B b (l.map Y) w
theorem Bd.f {w:World} {B b:Nat} {l:List UInt8} (h:Bd w B b l):BdF w B b l:=Lib.IsBuilderF.of h
theorem BdFU.f {w:World} {B b:Nat} {l:List UInt8} (h:BdFU w B b l):BdF w B b l:=.inr h
theorem batF_later {w w':World} {B b:Nat} {p:Value} {bs:List Value} (h:Lib.BuilderAtF BT 5 B b p bs w) (hb:Below w.heap.size w w'):Lib.BuilderAtF BT 5 B b p bs w':=by
 have hlt:=h.lt
 obtain ⟨hB,v,hbk,hown,hne⟩:=h
 refine ⟨hB,v,(hb.block b hlt).trans hbk,⟨hown.1,?_⟩,hne⟩
 rcases hown.2 with hn | ⟨g,cap,cur,fz,hv,h1,h2,h3⟩
 ·exact .inl hn
 ·exact .inr ⟨g,cap,cur,fz,hv,h1,(hb.block g (Array.getElem?_eq_some_iff.1 h2).1).trans h2,h3⟩
theorem BdF.later {w w':World} {B b:Nat} {l:List UInt8} (h:BdF w B b l) (hb:Below w.heap.size w w'):BdF w' B b l:=h.imp (fun x=>batF_later x hb) (fun x=>batF_later x hb)
theorem bstrF_any (B b:Nat) (l:List UInt8) (w:World) (h:BdF w B b l) (hBw:B ≤ w.heap.size) :
  Calls Tryz.prog 53 #[.pointer (some ⟨b,0,none⟩)] w fun e w'=>e = .returned (.string ⟨l.toArray⟩) ∧ BdF w' B b l ∧ Below B w w':=Tryz.Builder_String_any_f B b l w h hBw
theorem cchkF_any (B b:Nat) (l:List UInt8) (w:World) (h:BdF w B b l) :
  Calls Tryz.prog 96 #[.pointer (some ⟨b,0,none⟩)] w fun e w'=>e = .returned (.tuple #[]) ∧ BdFU w' B b l ∧ Below B w w':=by
 rcases h with h | h
 ·refine (cchk_fresh b w h.cell0 h.shape h.frozen0).mono ?_
  rintro e w' ⟨rfl,rfl⟩
  exact ⟨rfl,h.used _,(Below.refl B w).setCell (p:=⟨b,0,none⟩) h.1 _⟩
 ·refine (cchk_used b w h.cell0).mono ?_
  rintro e w' ⟨rfl,rfl⟩
  exact ⟨rfl,h,Below.refl B _⟩
theorem slice_formF {w:World} {B:Nat} {e:TypeId} {v:Value} {n:Nat} {xs:List Value} (h:w.ownsRowF B e 1 v n xs):∃ A c,v = .slice A n c:=by
 rcases h.2 with ⟨rfl,h0⟩ | ⟨g,cap,cur,fz,hv,_⟩
 ·exact ⟨none,0,by rw [h0]⟩
 ·exact ⟨_,cap,hv⟩
theorem wstrF_any (B b:Nat) (l t:List UInt8) (w:World) (h:BdF w B b l) (hl:l.length + t.length ≤ 1099511627776) (hBw:B ≤ w.heap.size) :
  Calls Tryz.prog 52 #[.pointer (some ⟨b,0,none⟩),.string ⟨t.toArray⟩] w fun e w'=>e = .returned (.tuple #[.int .i64 (t.length:Int),.nilIface]) ∧ BdF w' B b (l ++ t) ∧ Below B w w':=by
 obtain ⟨i0,hi,hz0,hz1,hz2⟩:=info_parts infoY
 have hts:(ByteArray.mk t.toArray).size = t.length:=by simp [ByteArray.size]
 have HSC:Hid (Lib.strCells (ByteArray.mk t.toArray) = t.map Y):=rfl
 have HC:=Hy (cchkF_any B b l w h)
 clear h
 go_enter Tryz.func52,Tryz.ntmps52
 go_wp2_with fail
 refine HC.out.mono ?_
 rintro e w1 ⟨rfl,hb,hB1⟩
 have hlt:=hb.lt
 obtain ⟨hB,v,hbk,hown,hne⟩:=hb
 rw [List.length_map] at hown
 have c1:w1.cell? ⟨b,1,none⟩ = some v:=by rw [Lib.cell_of_heap hbk]; rfl
 have hsz:=hB1.size
 have HB1:=Hy hB1
 clear hB1
 go_wp2_with (at_builtin; go_loud (refine Lib.wpList_append_own_stringF _ rfl _ _ 63 9 rfl B 5 i0 Tryz.underlying63 Tryz.underlying9 hi hz0 hz1 hz2 _ _ _ rfl hown ⟨t.toArray⟩ rfl (by rw [hts]; unfold maxLen; omega) (by rw [hts]; omega) (by omega) ?_))
 intro v' w2 hown' hgr _
 rw [HSC.out] at hown'
 have hb2:w2.heap[b]? = some (.cells #[.pointer (some ⟨b,0,none⟩),v] BT (0,0)):=by
  rw [hgr.block b hlt (fun e=>hne e.symm)]
  exact hbk
 have d0:w2.cell? ⟨b,0,none⟩ = some (.pointer (some ⟨b,0,none⟩)):=by rw [Lib.cell_of_heap hb2]; rfl
 have d1:w2.cell? ⟨b,1,none⟩ = some v:=by rw [Lib.cell_of_heap hb2]; rfl
 have f1:w2.frozen? ⟨b,1,none⟩ = false:=Lib.frozen_of_heap hb2 1
 have HBD:Hid (BdFU (w2.setCell ⟨b,1,none⟩ v') B b (l ++ t)):=by
  refine Lib.BuilderAtF.put (T:=BT) (e:=5) hB hb2 (bs':=(l ++ t).map Y) ?_ (by decide)
  rw [List.length_map,List.length_append,List.map_append]
  exact hown'
 obtain ⟨A',c',rfl⟩:=slice_formF hown'
 have HB2:=Hy ((HB1.out.grown hgr (by omega) (fun k hk=>(hown.lt k hk).1)).setCell (p:=⟨b,1,none⟩) hB (.slice A' (l.length + t.length) c'))
 clear hown hown' hgr hbk hne HC hb2
 go_wp2
 go_ret2
 exact ⟨rfl,HBD.out.f,HB2.out⟩
theorem pput_many (A:Option Addr) (c n:Nat) (w:World) (h:200 < n):Calls Tryz.prog 19 #[.slice A n c] w fun e w'=>e = .returned (.tuple #[.string ⟨#[]⟩,.bool false]) ∧ w = w':=by
 have k1:decide ((n:Int) > 200) = true:=decide_eq_true (by omega)
 go_enter Tryz.func19,Tryz.ntmps19
 go_wp2
 go_ret2
 exact ⟨rfl,rfl⟩
theorem pput_any (A:Option Addr) (c:Nat) (its:List It) (w:World) (hTab:Tabs w) (hA:ArgG encI default 35 w A c its) (hok:okP its) :
  Calls Tryz.prog 19 #[.slice A its.length c] w fun e w'=>e = .returned (.tuple #[.string ⟨(encP its).toArray⟩,.bool true]) ∧ Below w.heap.size w w':=by
 have HA:=Hy hA
 have hl1:=hTab.lt1
 have hl2:=hTab.lt2
 have HT:=Hy hTab
 have HOK:=Hy hok.2
 have HLE:=Hy hok.le
 have hlen:=hok.1
 have hlc:=hA.1
 have HBL:=Hy hok.body
 have HP1:=Hy fun W=>vput_any its.length (by omega) W
 have hn1:=numV_le its.length (by omega)
 have HE:Hid (bodyP its = markP ++ numV its.length ++ its.flatMap bytesI):=by show _ = _; unfold bodyP; rw [List.append_assoc]
 have HEP:Hid (encP its = bodyP its ++ ShaM.sha (bodyP its)):=rfl
 have k200:decide ((its.length:Int) > 200) = false:=decide_eq_false (by omega)
 clear hA hok hTab
 go_enter Tryz.func19,Tryz.ntmps19
 go_wp2_with fail
 refine (HP1.out _).mono ?_
 rintro e w1 ⟨rfl,hb1⟩
 have HB1:=Hy hb1
 clear hb1 HP1
 obtain ⟨b,hbe⟩:∃ b,b = w1.heap.size:=⟨_,rfl⟩
 have HBD:=Hy (bd_new w1)
 have HB4:=Hy (HB1.out.alloc HB1.out.size (.cells #[.pointer none,.slice none 0 0] 97))
 have hs4:(w1.alloc (.cells #[.pointer none,.slice none 0 0] 97)).heap.size = b + 1:=by rw [hbe]; simp
 have hsb:=HB1.out.size
 rw [← hbe] at HBD hsb
 go_wp2_with fail
 rw [← hbe]
 generalize w1.alloc (.cells #[.pointer none,.slice none 0 0] 97) = w4 at *
 clear HB1 hbe
 refine (wstr_any b b [] markP w4 HBD.out (by simp [markP]) (by omega)).mono ?_
 rintro e w5 ⟨rfl,hbd5,hB5,-⟩
 have HD5:=Hy hbd5.bd
 have HB5:=Hy (HB4.out.trans (hB5.mono hsb))
 have hs5:=hB5.size
 clear hbd5 hB5 HB4 HBD
 rw [List.nil_append] at HD5
 have hml:markP.length = 4:=rfl
 generalize markP = mk at *
 go_wp2_with fail
 refine (wstr_any b b mk (numV its.length) w5 HD5.out (by omega) (by omega)).mono ?_
 rintro e w6 ⟨rfl,hbd6,hB6,-⟩
 have HD6:Hid (Bd w6 b b (mk ++ numV its.length ++ (its.take 0).flatMap bytesI)):=by show Bd _ _ _ _; rw [List.take_zero,List.flatMap_nil,List.append_nil]; exact hbd6.bd
 have HB6:=Hy (HB5.out.trans (hB6.mono hsb))
 have hs6:=hB6.size
 clear hbd6 hB6 HB5 HD5
 generalize hpre:mk ++ numV its.length = pre at *
 have hprl:pre.length ≤ 7:=by rw [← hpre,List.length_append]; omega
 clear hpre
 go_wp2
 go_loopg [7,23] its.length (fun g _ s23 wr=>∃ k:Nat,k ≤ its.length ∧ its.length - k ≤ g ∧ s23 = .int .i64 k ∧ Hid (Below w.heap.size w wr) ∧ b < wr.heap.size ∧ Hid (Bd wr b b (pre ++ (its.take k).flatMap bytesI)))
 case atStart=>exact ⟨0,Nat.zero_le _,by omega,rfl,HB6,by omega,HD6⟩
 case round=>
  obtain ⟨k,hk,hg,rfl,hwr,hsz,hbd⟩:=hrel
  by_cases hlt:k < its.length
  ·have hlt':(k:Int) < (its.length:Int):=by omega
   obtain ⟨bb,o,rfl,hr⟩:=(HA.out.later eltI hwr.out).2.2.2 (by omega)
   have hfl:=HLE.out k hk
   have hfs:=flatI_snoc its k hlt
   have hoy:=HOK.out k hlt
   have hrk:=hr k hlt
   obtain ⟨y,hy⟩:∃ y,y = its.getD k default:=⟨_,rfl⟩
   rw [← hy] at hrk hfs hoy
   have HRK:=Hy hrk
   have HFS:=Hy hfs
   have HOY:=Hy hoy
   have HMAY:=Hy fun W=>pmay_any y k W hoy
   have hpl:(pre ++ (its.take k).flatMap bytesI).length ≤ 1000000000:=by rw [List.length_append]; omega
   have HPL:=Hy hpl
   clear hr hrk hy hfs hoy hpl hfl
   go_wp2_with (first
    | (refine wpList_load_mid rfl 34 _ rfl bb (o + k * 35) rfl (encI y) _ HRK.out Tryz.underlying34 rfl (infoI y) ?_)
    | (refine wpList_store_whole rfl 34 _ _ rfl wr.heap.size (encI y).toArray rfl rfl 34 _ (Whole.made wr _ _) (infoI_s y) (by rw [encI_size]; rfl) (encI_all y) ?_; intro w7 hWn hGn; have HW7:=Hy hWn; have D7:=Hy (made_below' hGn); clear hWn hGn)
    | (refine wpList_load_row rfl 34 _ rfl wr.heap.size rfl 34 (encI y).toArray (0,0) _ HW7.out Tryz.underlying34 rfl (infoI_s y) ?_))
   refine (HMAY.out _).mono ?_
   rintro e w8 ⟨rfl,hb8⟩
   have HB8:=Hy (hwr.out.trans ((D7.out.trans (hb8.mono D7.out.size)).mono hwr.out.size))
   have HD8:=Hy ((hbd.out.later D7.out).later hb8)
   have HW8:=Hy (HW7.out.below hb8 HW7.out.lt)
   have hs7:=D7.out.size
   have hs8:=hb8.size
   clear hb8 HMAY HW7 D7 hwr hbd
   go_wp2_with (refine wpList_load_row rfl 34 _ rfl wr.heap.size rfl 34 (encI y).toArray (0,0) _ HW8.out Tryz.underlying34 rfl (infoI_s y) ?_)
   refine (pputitem_any y k b b _ w8 HOY.out (by omega) HPL.out HD8.out (by omega) (by omega)).mono ?_
   rintro e w9 ⟨rfl,hbd9,hB9⟩
   have HB9:=Hy (HB8.out.trans (hB9.mono hsb))
   have HD9:Hid (Bd w9 b b (pre ++ (its.take (k + 1)).flatMap bytesI)):=by show Bd _ _ _ _; rw [HFS.out,← List.append_assoc]; exact hbd9
   have hs9:=hB9.size
   clear hbd9 hB9 HB8 HD8 HW8
   go_wp2
   go_roundg (its.length - (k + 1))
   case measure=>omega
   case rel=>exact ⟨k + 1,by omega,Nat.le_refl _,by go_num,HB9,by omega,HD9⟩
  ·obtain rfl:k = its.length:=by omega
   rw [List.take_length] at hbd
   rw [← HE.out] at hbd
   have hbl:=HBL.out
   generalize bodyP its = T at *
   go_wp2_with fail
   refine (bstrF_any b b _ _ hbd.out.f (by omega)).mono ?_
   rintro e w9 ⟨rfl,hf9,hB9⟩
   have HB9:=Hy (hwr.out.trans (hB9.mono hsb))
   have HF9:=Hy hf9
   have hs9:=hB9.size
   clear hB9 hf9 hwr hbd
   go_wp2_with fail
   refine (psum_any T w9 (HT.out.below HB9.out hl1 hl2) (by omega)).mono ?_
   rintro e w10 ⟨rfl,hb10⟩
   have HB10:=Hy (hTr HB9 hb10)
   have HF10:=Hy (HF9.out.later hb10)
   have hs10:=hb10.size
   have hsl:=ShaM.sha_len T
   clear hb10 HB9 HF9
   go_wp2_with fail
   refine (wstrF_any b b T (ShaM.sha T) w10 HF10.out (by omega) (by omega)).mono ?_
   rintro e w11 ⟨rfl,hf11,hB11⟩
   have HB11:=Hy (HB10.out.trans (hB11.mono hsb))
   have HF11:=Hy hf11
   have hs11:=hB11.size
   clear hB11 hf11 HB10 HF10
   go_wp2_with fail
   refine (bstrF_any b b _ _ HF11.out (by omega)).mono ?_
   rintro e w12 ⟨rfl,-,hB12⟩
   have HB12:=Hy (HB11.out.trans (hB12.mono hsb))
   clear hB12
   go_wp2
   go_ret2
   exact ⟨by rw [HEP.out]; rfl,HB12.out⟩
end Go.Proofs.YtlfmooihcigolaaGreatDoor
