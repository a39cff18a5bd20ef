/-
  Law 9's DeltaMake, walked (begun's answer as a premise).
-/
import Derived.Test.YtlfmooihcigolaaGreatDoorMbv
import Derived.Test.YtlfmooihcigolaaGreatDoorMbt
set_option maxRecDepth 100000
set_option maxHeartbeats 8000000
namespace Go.Proofs.YtlfmooihcigolaaGreatDoor
open Go.RowKit
theorem wdmake_any (base text:List UInt8) (at_ n:Int) (w:World)
  (hbeg:Calls Tryz.prog 14 #[] w fun e w'=>e = .returned (.bool true) ∧ Below w.heap.size w w') :
  Calls Tryz.prog 3 #[.string ⟨base.toArray⟩,.string ⟨text.toArray⟩,.int .i64 at_,.int .i64 n] w fun e w'=>e = .returned (.bool true) ∧ Below w.heap.size w w':=by
 have HBEG:=Hy hbeg
 clear hbeg
 go_enter Tryz.func3,Tryz.ntmps3
 go_wp2_with fail
 refine HBEG.out.mono ?_
 rintro e w2 ⟨rfl,hb2⟩
 have HB2:=Hy hb2
 clear hb2 HBEG
 have HT1:=Hy (text_any base 400)
 have HT2:=Hy (text_any text 300)
 have hl1:(base.take 400).length ≤ 400:=by rw [List.length_take]; omega
 have hl2:(text.take 300).length ≤ 300:=by rw [List.length_take]; omega
 generalize base.take 400 = B at *
 generalize text.take 300 = T at *
 go_wp2_with fail
 refine (HT1.out w2).mono ?_
 rintro e w' ⟨rfl,rfl⟩
 go_wp2_with fail
 refine (HT2.out w2).mono ?_
 rintro e w' ⟨rfl,rfl⟩
 clear HT1 HT2
 by_cases hc:0 ≤ at_ ∧ 0 ≤ n
 ·obtain ⟨ha,hn⟩:=hc
  have hd1:decide (0 ≤ at_) = true:=decide_eq_true ha
  have hd2:decide (0 ≤ n) = true:=decide_eq_true hn
  obtain ⟨k,hk,hmm⟩:=rem_pos at_ (B.length + 1) ha (by omega)
  obtain ⟨r,hr,hrr⟩:=rem_pos n 50 hn (by omega)
  rw [show (((50:Nat)):Int) = 50 from rfl] at hrr
  rw [Int.natCast_add,show (((1:Nat)):Int) = 1 from rfl] at hmm
  have hne:((B.length:Int) + 1 == 0) = false:=by rw [beq_eq_false_iff_ne]; omega
  obtain ⟨m,hm,hml⟩:∃ m,m = min B.length (k + r) ∧ m ≤ B.length:=⟨_,rfl,Nat.min_le_left _ _⟩
  have hmin:∀ W,(Builtin.min_ #[3,3] 3 #[.int .i64 (B.length:Int),.int .i64 ((k:Int) + (r:Int))]).run Tryz.prog W = .ok (.int .i64 (m:Int)) W:=by
   intro W
   rw [run_min_int2]
   congr 2
   split <;> omega
  have hkl:k ≤ B.length:=by omega
  have HX1:Hid ((ByteArray.mk B.toArray).extract 0 k = ⟨(B.take k).toArray⟩):=ext_to B k
  have HX2:Hid ((ByteArray.mk B.toArray).extract m B.length = ⟨(B.drop m).toArray⟩):=ext_from B m
  have hX3:Hid (ByteArray.mk (B.take k).toArray ++ ByteArray.mk T.toArray ++ ByteArray.mk (B.drop m).toArray = ⟨(B.take k ++ T ++ B.drop m).toArray⟩):=by show _ = _; rw [ba_append,ba_append]
  have hlT:(B.take k ++ T ++ B.drop m).length ≤ 2000:=by simp only [List.length_append,List.length_take,List.length_drop]; omega
  clear ha hn hm
  go_wp2_with fail
  refine wp_region_quiet_lit (by kernel_rfl) (by kernel_rfl) ?_
  repeat (go_big_quiet_step (fail))
  refine wpQuiet_nil ?_
  rintro _ ⟨nq,rfl⟩
  rw [HX1.out,HX2.out,hX3.out]
  have HB3:=Hy (be_drewN HB2.out nq)
  clear HX1 HX2 hX3 HB2 hmin hmm hrr
  generalize w2.drewN nq = w3 at *
  generalize B.take k ++ T ++ B.drop m = X at *
  have HMK:=Hy (dmake_any B X (by omega) (by omega) w3)
  go_wp2_with fail
  refine HMK.out.mono ?_
  rintro e w4 ⟨⟨cs,rfl,hok,hap,hsum,hlen⟩,hb4⟩
  have HB4:=Hy (hTr HB3 hb4)
  have HP1:=Hy (dapply_any B cs w4 hok (by omega) (by omega))
  have HP2:=Hy fun W=>rapply_any B cs W hok (by omega) (by omega)
  rw [hap] at HP1 HP2
  have hle:decide (((encD B.length cs).length:Int) ≤ (X.length:Int) + 20 + (X.length:Int) / 100 + 1) = true:=decide_eq_true (by omega)
  have hle':((encD B.length cs).length:Int) ≤ (X.length:Int) + 20 + (X.length:Int) / 100 + 1:=by omega
  clear hb4 HMK HB3 hok hap
  generalize encD B.length cs = D at *
  go_wp2_with fail
  refine HP1.out.mono ?_
  rintro e w5 ⟨rfl,hb5⟩
  have HB5:=Hy (hTr HB4 hb5)
  clear hb5 HB4 HP1
  go_wp2_with fail
  refine (HP2.out w5).mono ?_
  rintro e w6 ⟨rfl,hb6⟩
  have HB6:=Hy (hTr HB5 hb6)
  clear hb6 HB5 HP2
  go_wp2
  go_ret
  exact ⟨rfl,HB6.out⟩
 ·have hd:decide (0 ≤ at_) = false ∨ (decide (0 ≤ at_) = true ∧ decide (0 ≤ n) = false):=by
   rw [decide_eq_false_iff_not,decide_eq_false_iff_not,decide_eq_true_iff]
   omega
  rcases hd with hd | ⟨hd,hd'⟩
  ·have hlT:T.length ≤ 2000:=by omega
   have HB3:=HB2
   clear HB2
   have HMK:=Hy (dmake_any B T (by omega) (by omega) w2)
   go_wp2_with fail
   refine HMK.out.mono ?_
   rintro e w4 ⟨⟨cs,rfl,hok,hap,hsum,hlen⟩,hb4⟩
   have HB4:=Hy (hTr HB3 hb4)
   have HP1:=Hy (dapply_any B cs w4 hok (by omega) (by omega))
   have HP2:=Hy fun W=>rapply_any B cs W hok (by omega) (by omega)
   rw [hap] at HP1 HP2
   have hle:decide (((encD B.length cs).length:Int) ≤ (T.length:Int) + 20 + (T.length:Int) / 100 + 1) = true:=decide_eq_true (by omega)
   have hle':((encD B.length cs).length:Int) ≤ (T.length:Int) + 20 + (T.length:Int) / 100 + 1:=by omega
   clear hb4 HMK HB3 hok hap
   generalize encD B.length cs = D at *
   go_wp2_with fail
   refine HP1.out.mono ?_
   rintro e w5 ⟨rfl,hb5⟩
   have HB5:=Hy (hTr HB4 hb5)
   clear hb5 HB4 HP1
   go_wp2_with fail
   refine (HP2.out w5).mono ?_
   rintro e w6 ⟨rfl,hb6⟩
   have HB6:=Hy (hTr HB5 hb6)
   clear hb6 HB5 HP2
   go_wp2
   go_ret
   exact ⟨rfl,HB6.out⟩
  ·have hlT:T.length ≤ 2000:=by omega
   have HB3:=HB2
   clear HB2
   have HMK:=Hy (dmake_any B T (by omega) (by omega) w2)
   go_wp2_with fail
   refine HMK.out.mono ?_
   rintro e w4 ⟨⟨cs,rfl,hok,hap,hsum,hlen⟩,hb4⟩
   have HB4:=Hy (hTr HB3 hb4)
   have HP1:=Hy (dapply_any B cs w4 hok (by omega) (by omega))
   have HP2:=Hy fun W=>rapply_any B cs W hok (by omega) (by omega)
   rw [hap] at HP1 HP2
   have hle:decide (((encD B.length cs).length:Int) ≤ (T.length:Int) + 20 + (T.length:Int) / 100 + 1) = true:=decide_eq_true (by omega)
   have hle':((encD B.length cs).length:Int) ≤ (T.length:Int) + 20 + (T.length:Int) / 100 + 1:=by omega
   clear hb4 HMK HB3 hok hap
   generalize encD B.length cs = D at *
   go_wp2_with fail
   refine HP1.out.mono ?_
   rintro e w5 ⟨rfl,hb5⟩
   have HB5:=Hy (hTr HB4 hb5)
   clear hb5 HB4 HP1
   go_wp2_with fail
   refine (HP2.out w5).mono ?_
   rintro e w6 ⟨rfl,hb6⟩
   have HB6:=Hy (hTr HB5 hb6)
   clear hb6 HB5 HP2
   go_wp2
   go_ret
   exact ⟨rfl,HB6.out⟩
end Go.Proofs.YtlfmooihcigolaaGreatDoor
