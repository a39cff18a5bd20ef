/-
  Law 9's VaryEdges, walked (begun's answer as a premise).
-/
import Derived.Test.YtlfmooihcigolaaGreatDoorMbt
set_option maxRecDepth 100000
set_option maxHeartbeats 8000000
namespace Go.Proofs.YtlfmooihcigolaaGreatDoor
open Go.RowKit
def RV (b g:Nat):Nat → Prop:=fun j=>j = b ∨ j = g + 1 ∨ j = g + 2 ∨ j = g + 3
theorem wve1_any (b g k n:Nat) (W:World) (hk:k = 1 ∨ k = 2 ∨ k = 3 ∨ k = 6 ∨ k = 7) (hn:n ≤ 1000000) (hbg:b < g) (hp:Whole W g 61 #[.pointer (some ⟨b,0,none⟩)]) (h1:Whole W (g + 1) 3 #[.int .i64 (-1)]) (h2:Whole W (g + 2) 3 #[.int .i64 (-1)]) (h3:Whole W (g + 3) 3 #[.int .i64 (-1)]) (hr:Rd W b (numV n ++ headV k n)) :
  Calls Tryz.prog 34 #[.pointer (some ⟨g,0,none⟩),.pointer (some ⟨g + 1,0,none⟩),.pointer (some ⟨g + 2,0,none⟩),.pointer (some ⟨g + 3,0,none⟩)] W fun e w'=>e = .returned (.tuple #[]) ∧ Alt (RV b g) W w' ∧ Whole w' g 61 #[.pointer (some ⟨b,0,none⟩)] ∧ Whole w' (g + 1) 3 #[.int .i64 (n:Int)] ∧ Whole w' (g + 2) 3 #[.int .i64 (k:Int)] ∧ Whole w' (g + 3) 3 #[.int .i64 (n:Int)] ∧ Rd w' b []:=by
 have hc0:W.cell? ⟨g,0,none⟩ = some (.pointer (some ⟨b,0,none⟩)):=(hp.at_ 0).trans rfl
 have HP:=Hy hp
 have H1:=Hy h1
 have H2:=Hy h2
 have H3:=Hy h3
 have HG1:=Hy (vget_any b n hn (headV k n) W hr)
 have HG2:=Hy fun W (h:Rd W b (headV k n ++ []))=>vgethead_any b k n hk hn [] W h
 clear hp h1 h2 h3 hr hk
 go_enter Tryz.func34,Tryz.ntmps34
 go_wp2_with fail
 refine HG1.out.mono ?_
 rintro e w1 ⟨rfl,ha1,hr1⟩
 have hp1:=HP.out.alt ha1 (by omega)
 have h11:=H1.out.alt ha1 (by omega)
 have h21:=H2.out.alt ha1 (by omega)
 have h31:=H3.out.alt ha1 (by omega)
 have hz:=h11.thawed 0
 have hcx:w1.cell? ⟨g + 1,0,none⟩ = some (.int .i64 (-1)):=(h11.at_ 0).trans rfl
 have HA2:Hid (Alt (RV b g) W (w1.setCell ⟨g + 1,0,none⟩ (.int .i64 (n:Int)))):=(ha1.mono (fun _ _ e=>.inl e)).set (p:=⟨g + 1,0,none⟩) (.inl (.inr (.inl rfl))) _
 have HP2:=Hy (hp1.aside (p:=⟨g + 1,0,none⟩) (by simp) (.int .i64 (n:Int)))
 have H12:=Hy (h11.put 0 (.int .i64 (n:Int)))
 have H22:=Hy (h21.aside (p:=⟨g + 1,0,none⟩) (by simp) (.int .i64 (n:Int)))
 have H32:=Hy (h31.aside (p:=⟨g + 1,0,none⟩) (by simp) (.int .i64 (n:Int)))
 have HR2:Hid (Rd (w1.setCell ⟨g + 1,0,none⟩ (.int .i64 (n:Int))) b (headV k n ++ [])):=by show Rd _ _ _; rw [List.append_nil]; exact hr1.aside (p:=⟨g + 1,0,none⟩) (by simp; omega) _
 clear ha1 hr1 hp1 h11 h21 h31 HP H1 H2 H3 HG1 hc0
 go_upto_region 1 with fail
 generalize w1.setCell ⟨g + 1,0,none⟩ (.int .i64 (n:Int)) = w2 at *
 clear hz hcx
 have hc0:w2.cell? ⟨g,0,none⟩ = some (.pointer (some ⟨b,0,none⟩)):=(HP2.out.at_ 0).trans rfl
 go_wp2_with fail
 refine (HG2.out w2 HR2.out).mono ?_
 rintro e w3 ⟨rfl,ha1,hr1⟩
 have hp1:=HP2.out.alt ha1 (by omega)
 have h11:=H12.out.alt ha1 (by omega)
 have h21:=H22.out.alt ha1 (by omega)
 have h31:=H32.out.alt ha1 (by omega)
 have hz:=h21.thawed 0
 have hcx:w3.cell? ⟨g + 2,0,none⟩ = some (.int .i64 (-1)):=(h21.at_ 0).trans rfl
 have hz3:=h31.thawed 0
 have hcx3:w3.cell? ⟨g + 3,0,none⟩ = some (.int .i64 (-1)):=(h31.at_ 0).trans rfl
 have HA4:=Hy (((HA2.out.trans (ha1.mono (R':=RV b g) (fun _ _ e=>.inl e))).set (p:=⟨g + 2,0,none⟩) (.inl (.inr (.inr (.inl rfl)))) (.int .i64 (k:Int))).set (p:=⟨g + 3,0,none⟩) (.inl (.inr (.inr (.inr rfl)))) (.int .i64 (n:Int)))
 have HP4:=Hy ((hp1.aside (p:=⟨g + 2,0,none⟩) (by simp) (.int .i64 (k:Int))).aside (p:=⟨g + 3,0,none⟩) (by simp) (.int .i64 (n:Int)))
 have H14:=Hy ((h11.aside (p:=⟨g + 2,0,none⟩) (by simp) (.int .i64 (k:Int))).aside (p:=⟨g + 3,0,none⟩) (by simp) (.int .i64 (n:Int)))
 have H24:=Hy ((h21.put 0 (.int .i64 (k:Int))).aside (p:=⟨g + 3,0,none⟩) (by simp) (.int .i64 (n:Int)))
 have H34:=Hy ((h31.aside (p:=⟨g + 2,0,none⟩) (by simp) (.int .i64 (k:Int))).put 0 (.int .i64 (n:Int)))
 have HR4:=Hy ((Whole.aside hr1 (p:=⟨g + 2,0,none⟩) (by simp; omega) (.int .i64 (k:Int))).aside (p:=⟨g + 3,0,none⟩) (by simp; omega) (.int .i64 (n:Int)))
 clear ha1 hr1 hp1 h11 h21 h31 HP2 H12 H22 H32 HR2 HA2 HG2 hc0
 go_wp2
 go_end0
 exact ⟨rfl,HA4.out,HP4.out,H14.out,H24.out,H34.out,HR4.out⟩
theorem wve1_enters (caps:Array Value) (W:World):(callFunc 34 caps).run Tryz.prog W = .ok (.enter 34 caps) W:=enters_of Tryz.func34 (by kernel_rfl) rfl _ _
theorem pick_rem (n:Int) (m:Nat) (hm:0 < m) (hm2:m ≤ 100):∃ p:Nat,p < m ∧ (n.tmod (m:Int) + (m:Int)).tmod (m:Int) = (p:Int) ∧ -100 ≤ n.tmod (m:Int) ∧ n.tmod (m:Int) ≤ 100:=by
 have h1:=Int.tmod_lt_of_pos n (show (0:Int) < (m:Int) by omega)
 have h2:=Int.lt_tmod_of_pos n (show (0:Int) < (m:Int) by omega)
 generalize n.tmod (m:Int) = x at *
 rw [Int.tmod_eq_emod_of_nonneg (by omega)]
 refine ⟨((x + (m:Int)) % (m:Int)).toNat,?_,?_,by omega,by omega⟩
 ·have:=Int.emod_lt_of_pos (x + (m:Int)) (show (0:Int) < (m:Int) by omega)
  have:=Int.emod_nonneg (x + (m:Int)) (show (m:Int) ≠ 0 by omega)
  omega
 ·have:=Int.emod_nonneg (x + (m:Int)) (show (m:Int) ≠ 0 by omega)
  omega
def nums:List Nat:=[0,1,15,16,127,128,2047,2048,16383,16384,262143,262144,999999,1000000]
def kinds:List Nat:=[1,2,3,6,7]
theorem nums_le (p:Nat):nums.getD p 0 ≤ 1000000:=by
 rcases Nat.lt_or_ge p 14 with h | h
 ·rcases (by omega:p = 0 ∨ p = 1 ∨ p = 2 ∨ p = 3 ∨ p = 4 ∨ p = 5 ∨ p = 6 ∨ p = 7 ∨ p = 8 ∨ p = 9 ∨ p = 10 ∨ p = 11 ∨ p = 12 ∨ p = 13) with rfl | rfl | rfl | rfl | rfl | rfl | rfl | rfl | rfl | rfl | rfl | rfl | rfl | rfl <;> decide
 ·have e:nums[p]? = none:=List.getElem?_eq_none h
  simp [List.getD,e]
theorem kinds_in (p:Nat) (h:p < 5):kinds.getD p 0 = 1 ∨ kinds.getD p 0 = 2 ∨ kinds.getD p 0 = 3 ∨ kinds.getD p 0 = 6 ∨ kinds.getD p 0 = 7:=by
 rcases (by omega:p = 0 ∨ p = 1 ∨ p = 2 ∨ p = 3 ∨ p = 4) with rfl | rfl | rfl | rfl | rfl <;> decide
def numC:Array Value:=#[.int .i64 0,.int .i64 1,.int .i64 15,.int .i64 16,.int .i64 127,.int .i64 128,.int .i64 2047,.int .i64 2048,.int .i64 16383,.int .i64 16384,.int .i64 262143,.int .i64 262144,.int .i64 999999,.int .i64 1000000]
def kindC:Array Value:=#[.int .i64 1,.int .i64 2,.int .i64 3,.int .i64 6,.int .i64 7]
theorem numC_at (p:Nat) (h:p < 14):numC[p]? = some (.int .i64 (nums.getD p 0:Int)):=by
 rcases (by omega:p = 0 ∨ p = 1 ∨ p = 2 ∨ p = 3 ∨ p = 4 ∨ p = 5 ∨ p = 6 ∨ p = 7 ∨ p = 8 ∨ p = 9 ∨ p = 10 ∨ p = 11 ∨ p = 12 ∨ p = 13) with rfl | rfl | rfl | rfl | rfl | rfl | rfl | rfl | rfl | rfl | rfl | rfl | rfl | rfl <;> rfl
theorem kindC_at (p:Nat) (h:p < 5):kindC[p]? = some (.int .i64 (kinds.getD p 0:Int)):=by
 rcases (by omega:p = 0 ∨ p = 1 ∨ p = 2 ∨ p = 3 ∨ p = 4) with rfl | rfl | rfl | rfl | rfl <;> rfl
theorem wvedges_any (n kind:Int) (w:World)
  (hbeg:Calls Tryz.prog 14 #[] w fun e w'=>e = .returned (.bool true) ∧ Below w.heap.size w w') :
  Calls Tryz.prog 7 #[.int .i64 n,.int .i64 kind] w fun e w'=>e = .returned (.bool true) ∧ Below w.heap.size w w':=by
 have HBEG:=Hy hbeg
 clear hbeg
 obtain ⟨p,hp,hpm,hp1,hp2⟩:=pick_rem n 14 (by decide) (by decide)
 obtain ⟨q,hq,hqm,hq1,hq2⟩:=pick_rem kind 5 (by decide) (by decide)
 rw [show ((14:Nat):Int) = 14 from rfl] at hpm hp1 hp2
 rw [show ((5:Nat):Int) = 5 from rfl] at hqm hq1 hq2
 have hN:=numC_at p hp
 have hK:=kindC_at q hq
 have hn6:=nums_le p
 have hkk:=kinds_in q hq
 generalize nums.getD p 0 = N at *
 generalize kinds.getD q 0 = K at *
 generalize hx:n.tmod 14 = x at *
 generalize hy:kind.tmod 5 = y at *
 go_enter Tryz.func7,Tryz.ntmps7
 go_wp2_with fail
 refine HBEG.out.mono ?_
 rintro e w2 ⟨rfl,hb2⟩
 have HB2:=Hy hb2
 clear hb2 HBEG
 have c1:(w2.alloc (.cells numC 3)).cell? ⟨w2.heap.size,p,none⟩ = some (.int .i64 (N:Int)):=((Whole.made w2 3 numC).at_ p).trans hN
 have HB3:=Hy (HB2.out.alloc HB2.out.size (.cells numC 3))
 go_upto_region 5 with fail
 change Code.wp _ _ _ _ (w2.alloc (.cells numC 3))
 generalize w2.alloc (.cells numC 3) = w3 at *
 have hp':(p:Int) < 14:=by omega
 have hq':(q:Int) < 5:=by omega
 have hs2:=HB2.out.size
 have hs3:=HB3.out.size
 have c2:(w3.alloc (.cells #[.int .i64 1,.int .i64 2,.int .i64 3,.int .i64 6,.int .i64 7] 3)).cell? ⟨w3.heap.size,q,none⟩ = some (.int .i64 (K:Int)):=((Whole.made w3 3 kindC).at_ q).trans hK
 have HB4:=Hy (HB3.out.alloc hs3 (.cells kindC 3))
 clear HB2 hK hN
 go_upto_region 7 with fail
 change Code.wp _ _ _ _ (w3.alloc (.cells kindC 3))
 generalize w3.alloc (.cells kindC 3) = w4 at *
 clear c1 c2 HB3
 have HP:=Hy fun W=>vput_any N hn6 W
 have HH:=Hy fun W=>vhead_any K N hkk hn6 W
 have hlen:(numV N ++ headV K N).length ≤ 100:=by
  have e1:=numV_le N hn6
  have e2:(headV K N).length ≤ 4:=textV_le 3 _ _ (by omega)
  rw [List.length_append]
  omega
 obtain ⟨T,hT⟩:∃ T,T = numV N ++ headV K N:=⟨_,rfl⟩
 have hpl:(numV N).length + (headV K N).length ≤ 100:=by rw [← List.length_append]; exact hlen
 have hax:ByteArray.mk (numV N).toArray ++ ByteArray.mk (headV K N).toArray = ⟨T.toArray⟩:=by rw [hT]; exact ba_append _ _
 have HC1:=Hy fun b g W hbg hp h1 h2 h3 hr=>wve1_any b g K N W hkk hn6 hbg hp h1 h2 h3 hr
 rw [← hT] at HC1 hlen
 clear hT
 generalize numV N = P at *
 generalize headV K N = H at *
 have hs4:=HB4.out.size
 go_wp2_with fail
 refine (HP.out w4).mono ?_
 rintro e w5 ⟨rfl,hb5⟩
 have HB5:=Hy (HB4.out.trans (hb5.mono hs4))
 clear hb5 HB4 HP
 have hs5:=HB5.out.size
 go_wp2_with fail
 refine (HH.out w5).mono ?_
 rintro e w6 ⟨rfl,hb6⟩
 have HB6:=Hy (HB5.out.trans (hb6.mono hs5))
 clear hb6 HB5 HH
 have hs6:=HB6.out.size
 go_upto_region 10 with (first
  | (refine wpList_of_string rfl 9 63 5 _ rfl ⟨T.toArray⟩ T rfl rfl Tryz.underlying9 Tryz.underlying63 Tryz.underlying5 (by unfold maxLen; omega) ?_; intro w7 c hby hzz hbe hsz; have HBY:=Hy hby; have HB7:=Hy (HB6.out.trans (hbe.mono hs6)); clear hby hzz hbe)
  | (go_at_call 32; refine (gnew_any _ T w7 HBY.out).mono ?_; rintro e w8 ⟨rfl,hb8,hr8,hs8⟩; have HB8:=Hy (hTr HB7 hb8); have HR8:=Hy hr8; clear hb8 hr8))
 have hs7:w7.heap.size = w6.heap.size + 1:=hsz
 rw [hs7] at HR8 hs8
 have HPR:=Hy (Whole.made w8 61 #[.pointer (some ⟨w6.heap.size + 1,0,none⟩)])
 have HR9:=Hy (Whole.past HR8.out (.cells #[.pointer (some ⟨w6.heap.size + 1,0,none⟩)] 61))
 have HB9:=Hy (HB8.out.alloc HB8.out.size (.cells #[.pointer (some ⟨w6.heap.size + 1,0,none⟩)] 61))
 have hs9:(w8.alloc (.cells #[.pointer (some ⟨w6.heap.size + 1,0,none⟩)] 61)).heap.size = w6.heap.size + 1 + 1 + 1:=by simp [hs8]
 rw [hs8] at HPR
 generalize w8.alloc (.cells #[.pointer (some ⟨w6.heap.size + 1,0,none⟩)] 61) = w9 at *
 clear HB8 HR8 HB7 HBY HB6 hax
 generalize hgg:w6.heap.size + 1 = b0 at *
 have z1:(w9.alloc (.cells #[.int .i64 (-1)] 3)).heap.size = b0 + 1 + 2:=by simp [hs9]
 have z2:((w9.alloc (.cells #[.int .i64 (-1)] 3)).alloc (.cells #[.int .i64 (-1)] 3)).heap.size = b0 + 1 + 3:=by simp [hs9]
 have x1:=Whole.past (Whole.past (Whole.made w9 3 #[.int .i64 (-1)]) (.cells #[.int .i64 (-1)] 3)) (.cells #[.int .i64 (-1)] 3)
 have x2:=Whole.past (Whole.made (w9.alloc (.cells #[.int .i64 (-1)] 3)) 3 #[.int .i64 (-1)]) (.cells #[.int .i64 (-1)] 3)
 have x3:=Whole.made ((w9.alloc (.cells #[.int .i64 (-1)] 3)).alloc (.cells #[.int .i64 (-1)] 3)) 3 #[.int .i64 (-1)]
 rw [hs9] at x1
 rw [z1] at x2
 rw [z2] at x3
 have X1:=Hy x1
 have X2:=Hy x2
 have X3:=Hy x3
 have XP:=Hy (Whole.past (Whole.past (Whole.past HPR.out (.cells #[.int .i64 (-1)] 3)) (.cells #[.int .i64 (-1)] 3)) (.cells #[.int .i64 (-1)] 3))
 have XR:=Hy (Whole.past (Whole.past (Whole.past HR9.out (.cells #[.int .i64 (-1)] 3)) (.cells #[.int .i64 (-1)] 3)) (.cells #[.int .i64 (-1)] 3))
 have HBA:=Hy (((HB9.out.alloc HB9.out.size (.cells #[.int .i64 (-1)] 3)).alloc (by have:=HB9.out.size; simp; omega) (.cells #[.int .i64 (-1)] 3)).alloc (by have:=HB9.out.size; simp; omega) (.cells #[.int .i64 (-1)] 3))
 have hsA:(((w9.alloc (.cells #[.int .i64 (-1)] 3)).alloc (.cells #[.int .i64 (-1)] 3)).alloc (.cells #[.int .i64 (-1)] 3)).heap.size = b0 + 1 + 4:=by simp [hs9]
 clear x1 x2 x3 z1 z2 HPR HR9
 go_upto_region 11 with fail
 generalize ((w9.alloc (.cells #[.int .i64 (-1)] 3)).alloc (.cells #[.int .i64 (-1)] 3)).alloc (.cells #[.int .i64 (-1)] 3) = wa at *
 clear HB9
 have hR:¬ RV b0 (b0 + 1) wa.heap.size:=by unfold RV; omega
 have hcl:=HC1.out b0 (b0 + 1) (wa.alloc (.cells #[.int .i64 0] 25)) (by omega) (XP.out.past _) (X1.out.past _) (X2.out.past _) (X3.out.past _) (Whole.past XR.out _)
 have HD:=Hy (do_ret_q _ _ wa (RV b0 (b0 + 1)) _ (wve1_enters _) hR (by
  rintro w1 w2 hlt ⟨h0,h1,h2,h3,h4⟩ hal
  exact ⟨h0.alt hal (by omega),h1.alt hal (by omega),h2.alt hal (by omega),h3.alt hal (by omega),Whole.alt h4 hal (by omega)⟩) hcl)
 clear hcl hR HC1 X1 X2 X3 XP XR
 go_wp2_with fail
 refine HD.out.mono ?_
 rintro e wb ⟨rfl,ha,h0,h1,h2,h3,h4⟩
 have HBB:=Hy (HBA.out.trans (ha.to (B:=w.heap.size) (fun k e=>by unfold RV at e; omega) (by omega)))
 have c0:wb.cell? ⟨b0 + 1,0,none⟩ = some (.pointer (some ⟨b0,0,none⟩)):=(h0.at_ 0).trans rfl
 have c1:wb.cell? ⟨b0 + 1 + 1,0,none⟩ = some (.int .i64 (N:Int)):=(h1.at_ 0).trans rfl
 have c2:wb.cell? ⟨b0 + 1 + 2,0,none⟩ = some (.int .i64 (K:Int)):=(h2.at_ 0).trans rfl
 have c3:wb.cell? ⟨b0 + 1 + 3,0,none⟩ = some (.int .i64 (N:Int)):=(h3.at_ 0).trans rfl
 have HRB:=Hy h4
 clear h0 h1 h2 h3 h4 ha HD HBA
 go_wp2_with (go_at_call 37; refine (left_any b0 [] _ HRB.out).mono ?_; rintro e w' ⟨rfl,rfl⟩)
 go_ret
 exact ⟨rfl,HBB.out⟩
end Go.Proofs.YtlfmooihcigolaaGreatDoor
