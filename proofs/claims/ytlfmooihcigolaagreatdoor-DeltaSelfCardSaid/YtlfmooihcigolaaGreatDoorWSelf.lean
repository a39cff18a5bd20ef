/-
  Law 9's DeltaSelf, walked (begun's answer as a premise).
-/
import Derived.Test.YtlfmooihcigolaaGreatDoorMbu
import Derived.Test.YtlfmooihcigolaaGreatDoorMbt
set_option maxRecDepth 100000
set_option maxHeartbeats 8000000
namespace Go.Proofs.YtlfmooihcigolaaGreatDoor
open Go.RowKit
theorem wdself_any (a b:List UInt8) (w:World)
  (hbeg:Calls Tryz.prog 14 #[] w fun e w'=>e = .returned (.bool true) ∧ Below w.heap.size w w') :
  Calls Tryz.prog 9 #[.string ⟨a.toArray⟩,.string ⟨b.toArray⟩] w fun e w'=>e = .returned (.bool true) ∧ Below w.heap.size w w':=by
 have HBEG:=Hy hbeg
 clear hbeg
 go_enter Tryz.func9,Tryz.ntmps9
 go_wp2_with fail
 refine HBEG.out.mono ?_
 rintro e w2 ⟨rfl,hb2⟩
 have HB:=Hy hb2
 clear hb2 HBEG
 have HT1:=Hy (text_any a 300)
 have HT2:=Hy (text_any b 300)
 have hl1:(a.take 300).length ≤ 300:=by rw [List.length_take]; omega
 have hl2:(b.take 300).length ≤ 300:=by rw [List.length_take]; omega
 generalize a.take 300 = X at *
 generalize b.take 300 = Y at *
 go_wp2_with fail
 refine (HT1.out w2).mono ?_
 rintro e w' ⟨rfl,rfl⟩
 go_wp2_with fail
 refine (HT2.out w2).mono ?_
 rintro e w' ⟨rfl,rfl⟩
 clear HT1 HT2
 have HMK:=Hy (dmake_any X X (by first | omega | simp) (by first | omega | simp) w2)
 go_wp2_with fail
 refine HMK.out.mono ?_
 rintro e w3a ⟨⟨cs1,rfl,hok,hap,hsum,-⟩,hb4⟩
 have HBa:=Hy (hTr HB hb4)
 have hsm:sumC cs1 ≤ 1000000:=by rw [hsum]; first | omega | simp
 have HP1:=Hy (dapply_any X cs1 w3a hok (by first | omega | simp) hsm)
 rw [hap] at HP1
 clear hb4 HMK HB hok hap hsum hsm
 generalize encD (List.length X) cs1 = D1 at *
 go_wp2_with fail
 refine HP1.out.mono ?_
 rintro e w3 ⟨rfl,hb5⟩
 have HB:=Hy (hTr HBa hb5)
 clear hb5 HBa HP1
 have HMK:=Hy (dmake_any [] Y (by first | omega | simp) (by first | omega | simp) w3)
 go_wp2_with fail
 refine HMK.out.mono ?_
 rintro e w4a ⟨⟨cs2,rfl,hok,hap,hsum,-⟩,hb4⟩
 have HBa:=Hy (hTr HB hb4)
 have hsm:sumC cs2 ≤ 1000000:=by rw [hsum]; first | omega | simp
 have HP1:=Hy (dapply_any [] cs2 w4a hok (by first | omega | simp) hsm)
 rw [hap] at HP1
 clear hb4 HMK HB hok hap hsum hsm
 generalize encD (List.length []) cs2 = D2 at *
 go_wp2_with fail
 refine HP1.out.mono ?_
 rintro e w4 ⟨rfl,hb5⟩
 have HB:=Hy (hTr HBa hb5)
 clear hb5 HBa HP1
 have HMK:=Hy (dmake_any Y [] (by first | omega | simp) (by first | omega | simp) w4)
 go_wp2_with fail
 refine HMK.out.mono ?_
 rintro e w5a ⟨⟨cs3,rfl,hok,hap,hsum,-⟩,hb4⟩
 have HBa:=Hy (hTr HB hb4)
 have hsm:sumC cs3 ≤ 1000000:=by rw [hsum]; first | omega | simp
 have HP1:=Hy (dapply_any Y cs3 w5a hok (by first | omega | simp) hsm)
 rw [hap] at HP1
 clear hb4 HMK HB hok hap hsum hsm
 generalize encD (List.length Y) cs3 = D3 at *
 go_wp2_with fail
 refine HP1.out.mono ?_
 rintro e w5 ⟨rfl,hb5⟩
 have HB:=Hy (hTr HBa hb5)
 clear hb5 HBa HP1
 go_wp2
 go_ret
 exact ⟨rfl,HB.out⟩
end Go.Proofs.YtlfmooihcigolaaGreatDoor
