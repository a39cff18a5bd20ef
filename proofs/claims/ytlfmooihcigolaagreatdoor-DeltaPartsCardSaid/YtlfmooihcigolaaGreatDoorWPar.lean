/-
  Law 9's DeltaParts, walked (begun's answer as a premise).
-/
import Derived.Test.YtlfmooihcigolaaGreatDoorMbt
set_option maxRecDepth 100000
set_option maxHeartbeats 8000000
namespace Go.Proofs.YtlfmooihcigolaaGreatDoor
open Go.RowKit
theorem run_build_K3 (x y z:Ct) (w:World):(Instr.buildSlice 91 3 #[(0,.agg (encK x).toArray),(1,.agg (encK y).toArray),(2,.agg (encK z).toArray)]).run Tryz.prog w = .ok (.slice (some ⟨w.heap.size,0,none⟩) 3 3) (w.alloc (.cells ([x,y,z].flatMap encK).toArray 72)):=by kernel_rfl
theorem wpList_build_K3 {w:World} {ops:Array Oper} {rest:List Oper} {op:Oper} {a:Act} {Q:Exit → Act → World → Prop} (hgd:op.guard = none) (t u v:Operand) (ho:op.op = .buildSlice 91 3 #[(0,t),(1,u),(2,v)]) (x y z:Ct) (hx:a.eval t = .agg (encK x).toArray) (hy:a.eval u = .agg (encK y).toArray) (hz:a.eval v = .agg (encK z).toArray) (F:List Value) (hF:[x,y,z].flatMap encK = F)
  (h:wpList Tryz.prog ops Q rest (a.put op.dst (.slice (some ⟨w.heap.size,0,none⟩) 3 3)) (w.alloc (.cells F.toArray 72))):wpList Tryz.prog ops Q (op :: rest) a w:=
 wpList_plain hgd fun _ hK=>by
  have hb:=run_build_K3 x y z w
  rw [hF] at hb
  unfold Oper.wp
  simp [execOp,ho,hx,hy,hz,hb,Result.andThen]
  exact hK _ _ h
theorem wdparts_any (base:List UInt8) (at_ n:Int) (w:World)
  (hbeg:Calls Tryz.prog 14 #[] w fun e w'=>e = .returned (.bool true) ∧ Below w.heap.size w w') :
  Calls Tryz.prog 8 #[.string ⟨base.toArray⟩,.int .i64 at_,.int .i64 n] w fun e w'=>e = .returned (.bool true) ∧ Below w.heap.size w w':=by
 have HBEG:=Hy hbeg
 clear hbeg
 go_enter Tryz.func8,Tryz.ntmps8
 go_wp2_with fail
 refine HBEG.out.mono ?_
 rintro e w2 ⟨rfl,hb2⟩
 have HB2:=Hy hb2
 clear hb2 HBEG
 have HT1:=Hy (text_any base 200)
 have hl1:(base.take 200).length ≤ 200:=by rw [List.length_take]; omega
 generalize base.take 200 = B at *
 go_wp2_with fail
 refine (HT1.out w2).mono ?_
 rintro e w' ⟨rfl,rfl⟩
 clear HT1
 by_cases c1:B.length < 2
 ·have d1:(B.length:Int) < 2:=by omega
  go_wp2
  go_ret
  exact ⟨rfl,HB2.out⟩
 have d1:¬ (B.length:Int) < 2:=by omega
 by_cases c2:at_ < 0
 ·have d2:decide (at_ < 0) = true:=decide_eq_true c2
  go_wp2
  go_ret
  exact ⟨rfl,HB2.out⟩
 have d2:decide (at_ < 0) = false:=decide_eq_false c2
 by_cases c3:n < 0
 ·have d3:decide (n < 0) = true:=decide_eq_true c3
  go_wp2
  go_ret
  exact ⟨rfl,HB2.out⟩
 have d3:decide (n < 0) = false:=decide_eq_false c3
 obtain ⟨k0,hk0,hmm⟩:=rem_pos at_ (B.length - 1) (by omega) (by omega)
 rw [show ((B.length - 1:Nat):Int) = (B.length:Int) - 1 by omega] at hmm
 have hne:((B.length:Int) - 1 == 0) = false:=by rw [beq_eq_false_iff_ne]; omega
 obtain ⟨k,hk⟩:∃ k,k = 1 + k0:=⟨_,rfl⟩
 have hki:(1:Int) + (k0:Int) = (k:Int):=by omega
 have hk1:1 ≤ k:=by omega
 have hk2:k + 1 ≤ B.length:=by omega
 have hli:(B.length:Int) - (k:Int) = ((B.length - k:Nat):Int):=by omega
 clear hk0 hk c2 c3
 have hok:∀ c ∈ [(⟨[],k,B.length - k⟩:Ct),⟨[],0,k⟩,⟨[],0,k⟩],okC B.length c:=by
  intro c hc
  simp only [List.mem_cons,List.not_mem_nil,or_false] at hc
  rcases hc with rfl | rfl | rfl
  ·exact .inr ⟨rfl,by show k ≤ 100000; omega,by show 1 ≤ B.length - k; omega,by show B.length - k ≤ 100000; omega,by show k + (B.length - k) ≤ B.length; omega⟩
  ·exact .inr ⟨rfl,by show 0 ≤ 100000; omega,by show 1 ≤ k; omega,by show k ≤ 100000; omega,by show 0 + k ≤ B.length; omega⟩
  ·exact .inr ⟨rfl,by show 0 ≤ 100000; omega,by show 1 ≤ k; omega,by show k ≤ 100000; omega,by show 0 + k ≤ B.length; omega⟩
 have hsum:sumC [(⟨[],k,B.length - k⟩:Ct),⟨[],0,k⟩,⟨[],0,k⟩] ≤ 1000000:=by simp [sumC,mkC]; omega
 have hap:applyC B [(⟨[],k,B.length - k⟩:Ct),⟨[],0,k⟩,⟨[],0,k⟩] = B.drop k ++ B.take k ++ B.take k:=by
  simp only [applyC,List.flatMap_cons,List.flatMap_nil,cutV,List.nil_append,List.append_nil,List.drop_zero]
  rw [List.take_of_length_le (by rw [List.length_drop]; omega),List.append_assoc]
 have HBX1:Hid (Value.agg #[Value.string ⟨#[]⟩,.int .i64 (k:Int),.int .i64 ((B.length - k:Nat):Int)] = .agg (encK ⟨[],k,B.length - k⟩).toArray):=rfl
 have HBX2:Hid (Value.agg #[Value.string ⟨#[]⟩,.int .i64 0,.int .i64 (k:Int)] = .agg (encK ⟨[],0,k⟩).toArray):=rfl
 have hown:=World.ownsRow_lit (base:=w2.heap.size) (e:=72) (size:=3) w2 ([(⟨[],k,B.length - k⟩:Ct),⟨[],0,k⟩,⟨[],0,k⟩].flatMap encK).toArray 3 (Nat.le_refl _) (by unfold maxLen; omega) rfl
 obtain ⟨A,c,hv,har,-⟩:=own_argG (xs:=[(⟨[],k,B.length - k⟩:Ct),⟨[],0,k⟩,⟨[],0,k⟩]) eltK hown
 have HPUT:=Hy (dput_any B.length A c _ _ har hok (by omega) hsum)
 rw [← hv] at HPUT
 have HB3:=Hy (HB2.out.alloc HB2.out.size (.cells ([(⟨[],k,B.length - k⟩:Ct),⟨[],0,k⟩,⟨[],0,k⟩].flatMap encK).toArray 72))
 have HP1:=Hy fun W=>dapply_any B _ W hok (by omega) hsum
 have HP2:=Hy fun W=>dapply_other B.length (B ++ [120]) _ W hok (by omega) hsum (by rw [List.length_append,List.length_singleton]; omega)
 rw [hap] at HP1
 clear hown hv har hok hsum hap
 generalize encD B.length _ = D at *
 obtain ⟨F,hF⟩:∃ F,[(⟨[],k,B.length - k⟩:Ct),⟨[],0,k⟩,⟨[],0,k⟩].flatMap encK = F:=⟨_,rfl⟩
 have HF:=Hy hF
 rw [hF] at HPUT HB3
 clear hF
 go_wp2_with (refine wpList_build_K3 rfl _ _ _ rfl ⟨[],k,B.length - k⟩ ⟨[],0,k⟩ ⟨[],0,k⟩ HBX1.out HBX2.out HBX2.out F HF.out ?_)
 generalize w2.alloc _ = w3 at *
 refine HPUT.out.mono ?_
 rintro e w4 ⟨rfl,hb4⟩
 have HB4:=Hy (hTr HB3 hb4)
 clear hb4 HB3 HPUT
 go_wp2_with fail
 refine (HP1.out w4).mono ?_
 rintro e w5 ⟨rfl,hb5⟩
 have HB5:=Hy (hTr HB4 hb5)
 clear hb5 HB4 HP1
 have HX:Hid ((ByteArray.mk B.toArray) ++ (ByteArray.mk #[120]) = ⟨(B ++ [120]).toArray⟩):=ba_append B [120]
 go_wp2_with fail
 rw [HX.out]
 refine (HP2.out w5).mono ?_
 rintro e w6 ⟨rfl,hb6⟩
 have HB6:=Hy (hTr HB5 hb6)
 clear hb6 HB5 HP2
 have HX1:Hid ((ByteArray.mk B.toArray).extract 0 k = ⟨(B.take k).toArray⟩):=ext_to B k
 have HX2:Hid ((ByteArray.mk B.toArray).extract k B.length = ⟨(B.drop k).toArray⟩):=ext_from B k
 have HX3:Hid (ByteArray.mk (B.drop k).toArray ++ ByteArray.mk (B.take k).toArray ++ ByteArray.mk (B.take k).toArray = ⟨(B.drop k ++ B.take k ++ B.take k).toArray⟩):=by show _ = _; rw [ba_append,ba_append]
 have hkl:k ≤ B.length:=by omega
 have hx1:=HX1.out
 have hx2:=HX2.out
 have hx3:=HX3.out
 go_wp2_with fail
 refine wp_region_quiet_lit (by kernel_rfl) (by kernel_rfl) ?_
 repeat (go_big_quiet_step (fail))
 refine wpQuiet_nil ?_
 rintro _ ⟨nq,rfl⟩
 have HB7:=Hy (be_drewN HB6.out nq)
 go_wp2
 go_ret
 exact ⟨rfl,HB7.out⟩
end Go.Proofs.YtlfmooihcigolaaGreatDoor
