/-
  The reference's May of times, walked.
  CommitWhen, walked.
-/
import Derived.Test.YtdmafodppcbglaaGreatDoorMga
import Derived.Test.YtdmafodppcbglaaGreatDoorMgl
import Derived.Test.YtdmafodppcbglaaGreatDoorBegS
namespace Go.Proofs.YtdmafodppcbglaaGreatDoor
open Go.RowKit

theorem cut_nan (t : Nat) : Flo.isNaN ((t % 2) * 2 ^ 63 + 0x7ff0000000000000 + 1 + (t / 2) % (2 ^ 52 - 1)) = true := by
  have hb : (t / 2) % (2 ^ 52 - 1) < 2 ^ 52 - 1 := Nat.mod_lt _ (by decide)
  have ha : t % 2 = 0 ∨ t % 2 = 1 := by omega
  apply decide_eq_true
  show 9218868437227405312 < _ % 9223372036854775808
  generalize (t / 2) % (2 ^ 52 - 1) = b at *
  rcases ha with ha | ha <;> rw [ha] <;> omega
/-- What is no finite float, less itself: some NaN. -/
theorem sub_inf_run (n : Nat) (h : Flo.isFin n = false) (w : World) : ∃ r, Flo.isNaN r = true ∧ (binOp .sub 53 (.float .f64 n) (.float .f64 n)).run Tryz.prog w = .ok (.float .f64 r) w.drew := by
  have hs : FloatKind.f64.format.sub n n = none := Flo.sub_none n (by simpa [Flo.isFin] using h)
  refine ⟨(Question.nanBits .f64 n n).cut (w.tape w.drawn (.nanBits .f64 n n)), ?_, ?_⟩
  · exact cut_nan _
  · simp [binOp, Op.floatArith, hs, Question.forced]
theorem nan_eq0 {r : Nat} (h : Flo.isNaN r = true) : (FloatKind.f64.format.order r 0 == some Ordering.eq) = false := by
  have h1 : Flo.inf < Flo.E r := by simpa [Flo.isNaN] using h
  have : FloatKind.f64.format.order r 0 = none := Flo.order_nan_left r 0 h1
  rw [this]; rfl
theorem zeros {n : Nat} (h : n < 18446744073709551616) (hz : Flo.isZ n = true) : n = 0 ∨ n = 9223372036854775808 := by
  have h0 : Flo.E n = 0 := by simpa [Flo.isZ] using hz
  unfold Flo.E at h0
  omega
theorem rmay_any (n : Nat) (w : World) (h : n < 18446744073709551616) : Calls Tryz.prog 31 #[.float .f64 n] w fun e w' => e = .returned (.bool (Flo.may n)) ∧ ∃ k, w' = w.drewN k := by
  have hself : (FloatKind.f64.format.order n n == some Ordering.eq) = !Flo.isNaN n := Flo.self_eq n
  cases hq : Flo.isNaN n
  · rw [hq] at hself
    cases hf : Flo.isFin n
    · obtain ⟨r, hr, hrun⟩ := sub_inf_run n hf w
      have h0 := nan_eq0 hr
      have HM : Hid (Flo.may n = false) := by show _ = _; simp [Flo.may, hf]
      clear hr hq hf h
      go_enter Tryz.func31, Tryz.ntmps31
      go_wp2
      go_ret
      exact ⟨by rw [HM.out]; rfl, 1, rfl⟩
    · have hsub := fun w => run_float_arith (P := Tryz.prog) w .sub 53 .f64 n n 0 (Flo.sub_fin n (by simpa [Flo.isFin] using hf))
      cases hz : Flo.isZ n
      · have hne0 : (FloatKind.f64.format.order n 0 != some Ordering.eq) = true := by show (!(FloatKind.f64.format.order n 0 == some Ordering.eq)) = true; rw [show (FloatKind.f64.format.order n 0 == some Ordering.eq) = Flo.isZ n from Flo.zero_eq n, hz]; rfl
        have HM : Hid (Flo.may n = true) := by show _ = _; simp [Flo.may, hf, hz]
        clear hz hq hf h
        go_enter Tryz.func31, Tryz.ntmps31
        go_wp2
        go_ret
        exact ⟨by rw [HM.out]; rfl, 0, rfl⟩
      · rcases zeros h hz with rfl | rfl
        · have hdiv := fun w => run_float_arith (P := Tryz.prog) w .quo 53 .f64 4607182418800017408 0 9218868437227405312 (by kernel_rfl)
          clear hz hq hf h hself
          go_enter Tryz.func31, Tryz.ntmps31
          go_wp2
          go_ret
          exact ⟨by kernel_rfl, 0, rfl⟩
        · have hdiv := fun w => run_float_arith (P := Tryz.prog) w .quo 53 .f64 4607182418800017408 9223372036854775808 18442240474082181120 (by kernel_rfl)
          clear hz hq hf h hself
          go_enter Tryz.func31, Tryz.ntmps31
          go_wp2
          go_ret
          exact ⟨by kernel_rfl, 0, rfl⟩
  · rw [hq] at hself
    have hfin : Flo.isFin n = false := by rw [← Flo.isFin_eq, hq]; rfl
    have HM : Hid (Flo.may n = false) := by show _ = _; simp [Flo.may, hfin]
    clear hq hfin h
    go_enter Tryz.func31, Tryz.ntmps31
    go_wp2
    go_ret
    exact ⟨by rw [HM.out]; rfl, 0, rfl⟩
end Go.Proofs.YtdmafodppcbglaaGreatDoor
namespace Go.Proofs.YtdmafodppcbglaaGreatDoor
open Go.RowKit

def cmW (a : Nat) : Cm := ⟨⟨List.replicate 32 0, List.length_replicate⟩, [], a, []⟩
theorem cmW_may (a : Nat) : mayC (cmW a) = Flo.may a := by
  show (mayP [] && Flo.may a && decide (([] : List UInt8).length ≤ 100)) = _
  rw [show mayP [] = true by decide]
  simp
theorem cmW_put (a : Nat) (w : World) (ha : a < 18446744073709551616) : Calls Tryz.prog 30 #[.agg #[.int .u8 0, .int .u8 0, .int .u8 0, .int .u8 0, .int .u8 0, .int .u8 0, .int .u8 0, .int .u8 0, .int .u8 0, .int .u8 0, .int .u8 0, .int .u8 0, .int .u8 0, .int .u8 0, .int .u8 0, .int .u8 0, .int .u8 0, .int .u8 0, .int .u8 0, .int .u8 0, .int .u8 0, .int .u8 0, .int .u8 0, .int .u8 0, .int .u8 0, .int .u8 0, .int .u8 0, .int .u8 0, .int .u8 0, .int .u8 0, .int .u8 0, .int .u8 0, .slice none 0 0, .float .f64 a, .string ⟨#[]⟩]] w fun e w' => e = .returned (.tuple #[.string ⟨(if Flo.may a then bytesC (cmW a) else []).toArray⟩, .bool (Flo.may a)]) ∧ Below w.heap.size w w' := by
  have h := cput_any none 0 (cmW a) w ⟨Nat.le_refl _, Nat.zero_le _, fun _ => rfl, fun h => absurd h (Nat.lt_irrefl _)⟩ ha
  rw [cmW_may] at h
  exact h
theorem key_ne {a b : Nat} (ha : a < 18446744073709551616) (hb : b < 18446744073709551616) (ma : Flo.may a = true) (mb : Flo.may b = true) (h : a ≠ b) : (FloatKind.f64.format.order a b == some Ordering.eq) = false := by
  have hfa : Flo.isFin a = true := by unfold Flo.may at ma; exact (Bool.and_eq_true _ _ ▸ ma : _ ∧ _).1
  have hfb : Flo.isFin b = true := by unfold Flo.may at mb; exact (Bool.and_eq_true _ _ ▸ mb : _ ∧ _).1
  have h1 : Flo.E a < Flo.inf := by simpa [Flo.isFin] using hfa
  have h2 : Flo.E b < Flo.inf := by simpa [Flo.isFin] using hfb
  show (Ieee.double.order a b == some .eq) = false
  rw [Flo.eq_num a b (by omega) (by omega), decide_eq_false_iff_not]
  intro hk
  have na : ¬ (Flo.isZ a = true ∧ Flo.S a = true) := by
    unfold Flo.may at ma
    simp only [Bool.and_eq_true, Bool.not_eq_true', Bool.and_eq_false_iff] at ma
    rintro ⟨x, y⟩
    rcases ma.2 with h | h
    · rw [x] at h; cases h
    · rw [y] at h; cases h
  have nb : ¬ (Flo.isZ b = true ∧ Flo.S b = true) := by
    unfold Flo.may at mb
    simp only [Bool.and_eq_true, Bool.not_eq_true', Bool.and_eq_false_iff] at mb
    rintro ⟨x, y⟩
    rcases mb.2 with h | h
    · rw [x] at h; cases h
    · rw [y] at h; cases h
  unfold Flo.key at hk
  unfold Flo.isZ at na nb
  unfold Flo.S at hk na nb
  unfold Flo.E at hk na nb
  simp only [beq_iff_eq, decide_eq_true_eq] at hk na nb
  split at hk <;> split at hk <;> omega
theorem cwhen_ne {a b : Nat} (ha : a < 18446744073709551616) (hb : b < 18446744073709551616) (ma : Flo.may a = true) (mb : Flo.may b = true) (h : a ≠ b) : ¬ ((⟨(bytesC (cmW a)).toArray⟩ : ByteArray) = ⟨(bytesC (cmW b)).toArray⟩) := by
  intro e
  injection e with e
  have e : bytesC (cmW a) = bytesC (cmW b) := by simpa using congrArg Array.toList e
  have h1 := readC_put (cmW a) ha (by rw [cmW_may]; exact ma)
  have h2 := readC_put (cmW b) hb (by rw [cmW_may]; exact mb)
  rw [e, h2] at h1
  injection h1 with h1
  exact h (congrArg Cm.time h1).symm
set_option maxRecDepth 100000 in
set_option maxHeartbeats 4000000 in
theorem cwhen_f (a b : Nat) (w : World) (hE : Env w) (hT : Tens w) (ha : a < 18446744073709551616) (hb : b < 18446744073709551616) (fb : Bool) (ma : Flo.may a = false) (mb : Flo.may b = fb) : Calls Tryz.prog 9 #[.float .f64 a, .float .f64 b] w fun e w' => e = .returned (.bool true) ∧ Below w.heap.size w w' := by
  have HE := Lib.hid hE
  have HT := Lib.hid hT
  obtain ⟨sa, hsa⟩ : ∃ sa : ByteArray, ⟨(if false = true then bytesC (cmW a) else []).toArray⟩ = sa := ⟨_, rfl⟩
  obtain ⟨sb, hsb⟩ : ∃ sb : ByteArray, ⟨(if fb = true then bytesC (cmW b) else []).toArray⟩ = sb := ⟨_, rfl⟩
  have HPA : Hid (∀ W, Calls Tryz.prog 30 #[.agg #[.int .u8 0, .int .u8 0, .int .u8 0, .int .u8 0, .int .u8 0, .int .u8 0, .int .u8 0, .int .u8 0, .int .u8 0, .int .u8 0, .int .u8 0, .int .u8 0, .int .u8 0, .int .u8 0, .int .u8 0, .int .u8 0, .int .u8 0, .int .u8 0, .int .u8 0, .int .u8 0, .int .u8 0, .int .u8 0, .int .u8 0, .int .u8 0, .int .u8 0, .int .u8 0, .int .u8 0, .int .u8 0, .int .u8 0, .int .u8 0, .int .u8 0, .int .u8 0, .slice none 0 0, .float .f64 a, .string ⟨#[]⟩]] W fun e w' => e = .returned (.tuple #[.string sa, .bool false]) ∧ Below W.heap.size W w') := fun W => by have h := cmW_put a W ha; rw [ma] at h; exact hsa ▸ h
  have HPB : Hid (∀ W, Calls Tryz.prog 30 #[.agg #[.int .u8 0, .int .u8 0, .int .u8 0, .int .u8 0, .int .u8 0, .int .u8 0, .int .u8 0, .int .u8 0, .int .u8 0, .int .u8 0, .int .u8 0, .int .u8 0, .int .u8 0, .int .u8 0, .int .u8 0, .int .u8 0, .int .u8 0, .int .u8 0, .int .u8 0, .int .u8 0, .int .u8 0, .int .u8 0, .int .u8 0, .int .u8 0, .int .u8 0, .int .u8 0, .int .u8 0, .int .u8 0, .int .u8 0, .int .u8 0, .int .u8 0, .int .u8 0, .slice none 0 0, .float .f64 b, .string ⟨#[]⟩]] W fun e w' => e = .returned (.tuple #[.string sb, .bool fb]) ∧ Below W.heap.size W w') := fun W => by have h := cmW_put b W hb; rw [mb] at h; exact hsb ▸ h
  have HMA : Hid (∀ W, Calls Tryz.prog 31 #[.float .f64 a] W fun e w' => e = .returned (.bool false) ∧ ∃ k, w' = W.drewN k) := fun W => by have h := rmay_any a W ha; rwa [ma] at h
  have HMB : Hid (∀ W, Calls Tryz.prog 31 #[.float .f64 b] W fun e w' => e = .returned (.bool fb) ∧ ∃ k, w' = W.drewN k) := fun W => by have h := rmay_any b W hb; rwa [mb] at h
  clear hE hT ha hb ma mb hsa hsb
  go_enter Tryz.func9, Tryz.ntmps9
  go_wp2_with fail
  refine (begun6_any w HE.out HT.out).mono ?_
  rintro e w1 ⟨rfl, hb⟩
  have T1 := Lib.hid hb
  clear hb
  go_wp2_with fail
  refine (HPA.out w1).mono ?_
  rintro e w2 ⟨rfl, hb⟩
  have T2 := Lib.hid (T1.out.trans (hb.mono T1.out.size))
  clear hb
  go_wp2_with fail
  refine (HPB.out w2).mono ?_
  rintro e w3 ⟨rfl, hb⟩
  have T3 := Lib.hid (T2.out.trans (hb.mono T2.out.size))
  clear hb
  go_wp2_with fail
  refine (HMA.out w3).mono ?_
  rintro e w4 ⟨rfl, k4, hw⟩
  have T4 := Lib.hid (hw.symm ▸ be_drewN T3.out k4 : Below w.heap.size w w4)
  clear hw
  go_wp2_with fail
  refine (HMB.out w4).mono ?_
  rintro e w5 ⟨rfl, k5, hw⟩
  have T5 := Lib.hid (hw.symm ▸ be_drewN T4.out k5 : Below w.heap.size w w5)
  clear hw
  go_wp2
  go_ret
  exact ⟨rfl, T5.out⟩
set_option maxRecDepth 100000 in
set_option maxHeartbeats 4000000 in
theorem cwhen_tf (a b : Nat) (w : World) (hE : Env w) (hT : Tens w) (ha : a < 18446744073709551616) (hb : b < 18446744073709551616) (ma : Flo.may a = true) (mb : Flo.may b = false) : Calls Tryz.prog 9 #[.float .f64 a, .float .f64 b] w fun e w' => e = .returned (.bool true) ∧ Below w.heap.size w w' := by
  have HE := Lib.hid hE
  have HT := Lib.hid hT
  obtain ⟨sa, hsa⟩ : ∃ sa : ByteArray, ⟨(if true = true then bytesC (cmW a) else []).toArray⟩ = sa := ⟨_, rfl⟩
  obtain ⟨sb, hsb⟩ : ∃ sb : ByteArray, ⟨(if false = true then bytesC (cmW b) else []).toArray⟩ = sb := ⟨_, rfl⟩
  have HPA : Hid (∀ W, Calls Tryz.prog 30 #[.agg #[.int .u8 0, .int .u8 0, .int .u8 0, .int .u8 0, .int .u8 0, .int .u8 0, .int .u8 0, .int .u8 0, .int .u8 0, .int .u8 0, .int .u8 0, .int .u8 0, .int .u8 0, .int .u8 0, .int .u8 0, .int .u8 0, .int .u8 0, .int .u8 0, .int .u8 0, .int .u8 0, .int .u8 0, .int .u8 0, .int .u8 0, .int .u8 0, .int .u8 0, .int .u8 0, .int .u8 0, .int .u8 0, .int .u8 0, .int .u8 0, .int .u8 0, .int .u8 0, .slice none 0 0, .float .f64 a, .string ⟨#[]⟩]] W fun e w' => e = .returned (.tuple #[.string sa, .bool true]) ∧ Below W.heap.size W w') := fun W => by have h := cmW_put a W ha; rw [ma] at h; exact hsa ▸ h
  have HPB : Hid (∀ W, Calls Tryz.prog 30 #[.agg #[.int .u8 0, .int .u8 0, .int .u8 0, .int .u8 0, .int .u8 0, .int .u8 0, .int .u8 0, .int .u8 0, .int .u8 0, .int .u8 0, .int .u8 0, .int .u8 0, .int .u8 0, .int .u8 0, .int .u8 0, .int .u8 0, .int .u8 0, .int .u8 0, .int .u8 0, .int .u8 0, .int .u8 0, .int .u8 0, .int .u8 0, .int .u8 0, .int .u8 0, .int .u8 0, .int .u8 0, .int .u8 0, .int .u8 0, .int .u8 0, .int .u8 0, .int .u8 0, .slice none 0 0, .float .f64 b, .string ⟨#[]⟩]] W fun e w' => e = .returned (.tuple #[.string sb, .bool false]) ∧ Below W.heap.size W w') := fun W => by have h := cmW_put b W hb; rw [mb] at h; exact hsb ▸ h
  have HMA : Hid (∀ W, Calls Tryz.prog 31 #[.float .f64 a] W fun e w' => e = .returned (.bool true) ∧ ∃ k, w' = W.drewN k) := fun W => by have h := rmay_any a W ha; rwa [ma] at h
  have HMB : Hid (∀ W, Calls Tryz.prog 31 #[.float .f64 b] W fun e w' => e = .returned (.bool false) ∧ ∃ k, w' = W.drewN k) := fun W => by have h := rmay_any b W hb; rwa [mb] at h
  clear hE hT ha hb ma mb hsa hsb
  go_enter Tryz.func9, Tryz.ntmps9
  go_wp2_with fail
  refine (begun6_any w HE.out HT.out).mono ?_
  rintro e w1 ⟨rfl, hb⟩
  have T1 := Lib.hid hb
  clear hb
  go_wp2_with fail
  refine (HPA.out w1).mono ?_
  rintro e w2 ⟨rfl, hb⟩
  have T2 := Lib.hid (T1.out.trans (hb.mono T1.out.size))
  clear hb
  go_wp2_with fail
  refine (HPB.out w2).mono ?_
  rintro e w3 ⟨rfl, hb⟩
  have T3 := Lib.hid (T2.out.trans (hb.mono T2.out.size))
  clear hb
  go_wp2_with fail
  refine (HMA.out w3).mono ?_
  rintro e w4 ⟨rfl, k4, hw⟩
  have T4 := Lib.hid (hw.symm ▸ be_drewN T3.out k4 : Below w.heap.size w w4)
  clear hw
  go_wp2_with fail
  refine (HMB.out w4).mono ?_
  rintro e w5 ⟨rfl, k5, hw⟩
  have T5 := Lib.hid (hw.symm ▸ be_drewN T4.out k5 : Below w.heap.size w w5)
  clear hw
  go_wp2
  go_ret
  exact ⟨rfl, T5.out⟩
set_option maxRecDepth 100000 in
set_option maxHeartbeats 4000000 in
theorem cwhen_ne2 (a b : Nat) (w : World) (hE : Env w) (hT : Tens w) (ha : a < 18446744073709551616) (hb : b < 18446744073709551616) (ma : Flo.may a = true) (mb : Flo.may b = true) (hne : a ≠ b) : Calls Tryz.prog 9 #[.float .f64 a, .float .f64 b] w fun e w' => e = .returned (.bool true) ∧ Below w.heap.size w w' := by
  have HE := Lib.hid hE
  have HT := Lib.hid hT
  obtain ⟨sa, hsa⟩ : ∃ sa : ByteArray, ⟨(if true = true then bytesC (cmW a) else []).toArray⟩ = sa := ⟨_, rfl⟩
  obtain ⟨sb, hsb⟩ : ∃ sb : ByteArray, ⟨(if true = true then bytesC (cmW b) else []).toArray⟩ = sb := ⟨_, rfl⟩
  have hs0 : ¬ sa = sb := by
    rw [← hsa, ← hsb, if_pos rfl, if_pos rfl]
    exact cwhen_ne ha hb ma mb hne
  have hs : (sa.toList == sb.toList) = false := by
    rw [ByteArray.toList_eq, ByteArray.toList_eq, beq_eq_false_iff_ne]
    intro h
    exact hs0 (ByteArray.ext (Array.ext' h))
  clear hs0
  have hk := key_ne ha hb ma mb hne
  have HPA : Hid (∀ W, Calls Tryz.prog 30 #[.agg #[.int .u8 0, .int .u8 0, .int .u8 0, .int .u8 0, .int .u8 0, .int .u8 0, .int .u8 0, .int .u8 0, .int .u8 0, .int .u8 0, .int .u8 0, .int .u8 0, .int .u8 0, .int .u8 0, .int .u8 0, .int .u8 0, .int .u8 0, .int .u8 0, .int .u8 0, .int .u8 0, .int .u8 0, .int .u8 0, .int .u8 0, .int .u8 0, .int .u8 0, .int .u8 0, .int .u8 0, .int .u8 0, .int .u8 0, .int .u8 0, .int .u8 0, .int .u8 0, .slice none 0 0, .float .f64 a, .string ⟨#[]⟩]] W fun e w' => e = .returned (.tuple #[.string sa, .bool true]) ∧ Below W.heap.size W w') := fun W => by have h := cmW_put a W ha; rw [ma] at h; exact hsa ▸ h
  have HPB : Hid (∀ W, Calls Tryz.prog 30 #[.agg #[.int .u8 0, .int .u8 0, .int .u8 0, .int .u8 0, .int .u8 0, .int .u8 0, .int .u8 0, .int .u8 0, .int .u8 0, .int .u8 0, .int .u8 0, .int .u8 0, .int .u8 0, .int .u8 0, .int .u8 0, .int .u8 0, .int .u8 0, .int .u8 0, .int .u8 0, .int .u8 0, .int .u8 0, .int .u8 0, .int .u8 0, .int .u8 0, .int .u8 0, .int .u8 0, .int .u8 0, .int .u8 0, .int .u8 0, .int .u8 0, .int .u8 0, .int .u8 0, .slice none 0 0, .float .f64 b, .string ⟨#[]⟩]] W fun e w' => e = .returned (.tuple #[.string sb, .bool true]) ∧ Below W.heap.size W w') := fun W => by have h := cmW_put b W hb; rw [mb] at h; exact hsb ▸ h
  have HMA : Hid (∀ W, Calls Tryz.prog 31 #[.float .f64 a] W fun e w' => e = .returned (.bool true) ∧ ∃ k, w' = W.drewN k) := fun W => by have h := rmay_any a W ha; rwa [ma] at h
  have HMB : Hid (∀ W, Calls Tryz.prog 31 #[.float .f64 b] W fun e w' => e = .returned (.bool true) ∧ ∃ k, w' = W.drewN k) := fun W => by have h := rmay_any b W hb; rwa [mb] at h
  clear hE hT ha hb ma mb hsa hsb
  go_enter Tryz.func9, Tryz.ntmps9
  go_wp2_with fail
  refine (begun6_any w HE.out HT.out).mono ?_
  rintro e w1 ⟨rfl, hb⟩
  have T1 := Lib.hid hb
  clear hb
  go_wp2_with fail
  refine (HPA.out w1).mono ?_
  rintro e w2 ⟨rfl, hb⟩
  have T2 := Lib.hid (T1.out.trans (hb.mono T1.out.size))
  clear hb
  go_wp2_with fail
  refine (HPB.out w2).mono ?_
  rintro e w3 ⟨rfl, hb⟩
  have T3 := Lib.hid (T2.out.trans (hb.mono T2.out.size))
  clear hb
  go_wp2_with fail
  refine (HMA.out w3).mono ?_
  rintro e w4 ⟨rfl, k4, hw⟩
  have T4 := Lib.hid (hw.symm ▸ be_drewN T3.out k4 : Below w.heap.size w w4)
  clear hw
  go_wp2_with fail
  refine (HMB.out w4).mono ?_
  rintro e w5 ⟨rfl, k5, hw⟩
  have T5 := Lib.hid (hw.symm ▸ be_drewN T4.out k5 : Below w.heap.size w w5)
  clear hw
  go_wp2
  go_ret
  exact ⟨rfl, T5.out⟩
set_option maxRecDepth 100000 in
set_option maxHeartbeats 4000000 in
theorem cwhen_eq (a : Nat) (w : World) (hE : Env w) (hT : Tens w) (ha : a < 18446744073709551616) (ma : Flo.may a = true) : Calls Tryz.prog 9 #[.float .f64 a, .float .f64 a] w fun e w' => e = .returned (.bool true) ∧ Below w.heap.size w w' := by
  have HE := Lib.hid hE
  have HT := Lib.hid hT
  obtain ⟨sa, hsa⟩ : ∃ sa : ByteArray, ⟨(if true = true then bytesC (cmW a) else []).toArray⟩ = sa := ⟨_, rfl⟩
  have hk : (FloatKind.f64.format.order a a == some Ordering.eq) = true := by
    have h := Flo.self_eq a
    have h2 : Flo.isNaN a = false := by
      unfold Flo.may at ma
      simp only [Bool.and_eq_true] at ma
      have h3 := ma.1
      unfold Flo.isFin at h3
      unfold Flo.isNaN
      simp only [decide_eq_true_eq, decide_eq_false_iff_not] at h3 ⊢
      omega
    rw [h2] at h
    exact h
  have HPA : Hid (∀ W, Calls Tryz.prog 30 #[.agg #[.int .u8 0, .int .u8 0, .int .u8 0, .int .u8 0, .int .u8 0, .int .u8 0, .int .u8 0, .int .u8 0, .int .u8 0, .int .u8 0, .int .u8 0, .int .u8 0, .int .u8 0, .int .u8 0, .int .u8 0, .int .u8 0, .int .u8 0, .int .u8 0, .int .u8 0, .int .u8 0, .int .u8 0, .int .u8 0, .int .u8 0, .int .u8 0, .int .u8 0, .int .u8 0, .int .u8 0, .int .u8 0, .int .u8 0, .int .u8 0, .int .u8 0, .int .u8 0, .slice none 0 0, .float .f64 a, .string ⟨#[]⟩]] W fun e w' => e = .returned (.tuple #[.string sa, .bool true]) ∧ Below W.heap.size W w') := fun W => by have h := cmW_put a W ha; rw [ma] at h; exact hsa ▸ h
  have HMA : Hid (∀ W, Calls Tryz.prog 31 #[.float .f64 a] W fun e w' => e = .returned (.bool true) ∧ ∃ k, w' = W.drewN k) := fun W => by have h := rmay_any a W ha; rwa [ma] at h
  clear hE hT ha ma hsa
  go_enter Tryz.func9, Tryz.ntmps9
  go_wp2_with fail
  refine (begun6_any w HE.out HT.out).mono ?_
  rintro e w1 ⟨rfl, hb⟩
  have T1 := Lib.hid hb
  clear hb
  go_wp2_with fail
  refine (HPA.out w1).mono ?_
  rintro e w2 ⟨rfl, hb⟩
  have T2 := Lib.hid (T1.out.trans (hb.mono T1.out.size))
  clear hb
  go_wp2_with fail
  refine (HPA.out w2).mono ?_
  rintro e w3 ⟨rfl, hb⟩
  have T3 := Lib.hid (T2.out.trans (hb.mono T2.out.size))
  clear hb
  go_wp2_with fail
  refine (HMA.out w3).mono ?_
  rintro e w4 ⟨rfl, k4, hw⟩
  have T4 := Lib.hid (hw.symm ▸ be_drewN T3.out k4 : Below w.heap.size w w4)
  clear hw
  go_wp2_with fail
  refine (HMA.out w4).mono ?_
  rintro e w5 ⟨rfl, k5, hw⟩
  have T5 := Lib.hid (hw.symm ▸ be_drewN T4.out k5 : Below w.heap.size w w5)
  clear hw
  go_wp2
  go_ret
  exact ⟨rfl, T5.out⟩
theorem cwhen_any (a b : Nat) (w : World) (hE : Env w) (hT : Tens w) (ha : a < 18446744073709551616) (hb : b < 18446744073709551616) : Calls Tryz.prog 9 #[.float .f64 a, .float .f64 b] w fun e w' => e = .returned (.bool true) ∧ Below w.heap.size w w' := by
  cases ma : Flo.may a with
  | false => exact cwhen_f a b w hE hT ha hb _ ma rfl
  | true =>
    cases mb : Flo.may b with
    | false => exact cwhen_tf a b w hE hT ha hb ma mb
    | true =>
      by_cases h : a = b
      · subst h
        exact cwhen_eq a w hE hT ha ma
      · exact cwhen_ne2 a b w hE hT ha hb ma mb h
end Go.Proofs.YtdmafodppcbglaaGreatDoor
