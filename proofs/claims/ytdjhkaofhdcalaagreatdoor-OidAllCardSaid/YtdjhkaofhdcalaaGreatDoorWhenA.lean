/-
  Package math's few functions and package when's, walked: floats by their bits.
-/
import Derived.Test.YtdjhkaofhdcalaaGreatDoorBase
import Derived.Test.YtdjhkaofhdcalaaGreatDoorProg
import Derived.Test.YtdjhkaofhdcalaaGreatDoorFlo
import Derived.Handy
import Derived.WalkLawsBesides
import Derived.Laws.FloatArith
import Derived.BigQuiet
namespace Go.Proofs.YtdjhkaofhdcalaaGreatDoor
open Go.RowKit

theorem bits_run (n : Nat) (w : World) : (callFunc 57 #[.float .f64 n]).run Tryz.prog w = .ok (.value (.int .u64 (n : Int))) w := by kernel_rfl
theorem frombits_run (n : Nat) (w : World) : (callFunc 56 #[.int .u64 (n : Int)]).run Tryz.prog w = .ok (.value (.float .f64 n)) w := by kernel_rfl

theorem isnan_any (n : Nat) (w : World) : Calls Tryz.prog 80 #[.float .f64 n] w fun e w' => e = .returned (.bool (Flo.isNaN n)) ∧ w = w' := by
  go_enter Tryz.func80, Tryz.ntmps80
  go_wp2
  go_ret
  exact ⟨by rw [← Flo.self_ne n]; rfl, rfl⟩
theorem sign_neg (n : Nat) : decide (wrap64 (n : Int) < 0) = (n / 9223372036854775808 % 2 == 1) := by
  rw [Bool.eq_iff_iff]
  simp only [decide_eq_true_eq, beq_iff_eq, wrap64]
  omega
theorem signbit_any (n : Nat) (w : World) : Calls Tryz.prog 94 #[.float .f64 n] w fun e w' => e = .returned (.bool (Flo.S n)) ∧ w = w' := by
  have hb := bits_run n
  go_enter Tryz.func94, Tryz.ntmps94
  go_wp2
  go_ret
  exact ⟨congrArg (fun b => Ending.returned (.bool b)) (sign_neg n), rfl⟩
theorem abs_bits (n : Nat) (h : n < 18446744073709551616) : bits .andNot .u64 (n : Int) 9223372036854775808 = ((Flo.E n : Nat) : Int) := by
  have h1 := u64_andNot_nat n 9223372036854775808 h (by decide)
  have e : n &&& (18446744073709551615 - 9223372036854775808) = Flo.E n := by
    have := Nat.and_two_pow_sub_one_eq_mod n 63
    exact this
  rw [e] at h1
  exact h1
theorem isinf_any (n : Nat) (w : World) (h : n < 18446744073709551616) : Calls Tryz.prog 81 #[.float .f64 n, .int .i64 0] w fun e w' => e = .returned (.bool (decide (Flo.E n = Flo.inf))) ∧ w = w' := by
  have hb := bits_run n
  have hf := frombits_run (Flo.E n)
  have ha := abs_bits n h
  clear h
  go_enter Tryz.func81, Tryz.ntmps81
  go_wp2
  go_ret
  exact ⟨congrArg (fun b => Ending.returned (.bool b)) (Flo.inf_gt n), rfl⟩

/-! ### when -/
theorem isFinite_any (n : Nat) (w : World) (h : n < 18446744073709551616) : Calls Tryz.prog 55 #[.float .f64 n] w fun e w' => e = .returned (.bool (Flo.isFin n)) ∧ w = w' := by
  have hq := Flo.isFin_eq n
  have HQ := Lib.hid hq
  clear hq
  cases h1 : Flo.isNaN n
  all_goals
    have H1 := Lib.hid h1
    have hnan : Calls Tryz.prog 80 #[.float .f64 n] w fun e w' => e = .returned (.bool (Flo.isNaN n)) ∧ w = w' := isnan_any n w
    rw [h1] at hnan
    have HN := Lib.hid hnan
    clear h1 hnan
    go_enter Tryz.func55, Tryz.ntmps55
    go_wp2_with (first
      | (go_at_call 80; refine HN.out.mono ?_; rintro e w' ⟨rfl, rfl⟩)
      | (go_at_call 81; refine (isinf_any n _ h).mono ?_; rintro e w' ⟨rfl, rfl⟩))
    go_ret
    refine ⟨?_, rfl⟩
    rw [← HQ.out, H1.out]
    simp
theorem isLowNought_any (n : Nat) (w : World) : Calls Tryz.prog 69 #[.float .f64 n] w fun e w' => e = .returned (.bool (Flo.isZ n && Flo.S n)) ∧ w = w' := by
  cases hz : Flo.isZ n
  all_goals
    have hz2 : (FloatKind.f64.format.order n 0 == some Ordering.eq) = Flo.isZ n := Flo.zero_eq n
    rw [hz] at hz2
    clear hz
    go_enter Tryz.func69, Tryz.ntmps69
    go_wp2_with (go_at_call 94; refine (signbit_any n _).mono ?_; rintro e w' ⟨rfl, rfl⟩)
    go_ret
    exact ⟨rfl, rfl⟩
theorem may_any (n : Nat) (w : World) (h : n < 18446744073709551616) : Calls Tryz.prog 36 #[.float .f64 n] w fun e w' => e = .returned (.bool (Flo.may n)) ∧ w = w' := by
  have HM : Hid (Flo.may n = (Flo.isFin n && !(Flo.isZ n && Flo.S n))) := rfl
  have hfin := isFinite_any n w h
  cases hf : Flo.isFin n
  all_goals
    have H1 := Lib.hid hf
    rw [hf] at hfin
    have HF := Lib.hid hfin
    clear hf hfin
    go_enter Tryz.func36, Tryz.ntmps36
    go_wp2_with (first
      | (go_at_call 55; refine HF.out.mono ?_; rintro e w' ⟨rfl, rfl⟩)
      | (go_at_call 69; refine (isLowNought_any n _).mono ?_; rintro e w' ⟨rfl, rfl⟩))
    go_ret
    refine ⟨?_, rfl⟩
    rw [HM.out, H1.out]
    simp
/-- What Norm tells. -/
def normV (n : Nat) : Nat := if Flo.isFin n then (if Flo.isZ n then 0 else n) else 0
theorem norm_any (n : Nat) (w : World) (h : n < 18446744073709551616) : Calls Tryz.prog 24 #[.float .f64 n] w fun e w' => e = .returned (.tuple #[.float .f64 (normV n), .bool (Flo.isFin n)]) ∧ w = w' := by
  have hfin := isFinite_any n w h
  have HV : Hid (normV n = if Flo.isFin n then (if Flo.isZ n then 0 else n) else 0) := rfl
  cases hf : Flo.isFin n <;> cases hz : Flo.isZ n
  all_goals
    have hz2 : (FloatKind.f64.format.order n 0 == some Ordering.eq) = Flo.isZ n := Flo.zero_eq n
    rw [hz] at hz2
    rw [hf] at hfin
    have HF := Lib.hid hfin
    have H1 := Lib.hid hf
    have H2 := Lib.hid hz
    clear hf hz hfin
    go_enter Tryz.func24, Tryz.ntmps24
    go_wp2_with (go_at_call 55; refine HF.out.mono ?_; rintro e w' ⟨rfl, rfl⟩)
    go_ret2
    refine ⟨?_, rfl⟩
    rw [HV.out, H1.out, H2.out]
    rfl
end Go.Proofs.YtdjhkaofhdcalaaGreatDoor
