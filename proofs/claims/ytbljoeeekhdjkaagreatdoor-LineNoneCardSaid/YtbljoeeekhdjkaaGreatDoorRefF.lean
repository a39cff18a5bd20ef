/-
  The reference's times, walked.
-/
import Derived.Test.YtbljoeeekhdjkaaGreatDoorRefN
namespace Go.Proofs.YtbljoeeekhdjkaaGreatDoor
open Go.RowKit

theorem cut_nan (t : Nat) : Flo.isNaN ((t % 2) * 2 ^ 63 + 0x7ff0000000000000 + 1 + (t / 2) % (2 ^ 52 - 1)) = true := by
  have hb : (t / 2) % (2 ^ 52 - 1) < 2 ^ 52 - 1 := Nat.mod_lt _ (by decide)
  have ha : t % 2 = 0 ∨ t % 2 = 1 := by omega
  apply decide_eq_true
  show 9218868437227405312 < _ % 9223372036854775808
  generalize (t / 2) % (2 ^ 52 - 1) = b at *
  rcases ha with ha | ha <;> rw [ha] <;> omega
/-- What is no finite float, less itself: some NaN. -/
theorem sub_inf_run (n : Nat) (h : Flo.isFin n = false) (w : World) : ∃ r, Flo.isNaN r = true ∧ (binOp .sub 45 (.float .f64 n) (.float .f64 n)).run Tryz.prog w = .ok (.float .f64 r) w.drew := by
  have hs : FloatKind.f64.format.sub n n = none := Flo.sub_none n (by simpa [Flo.isFin] using h)
  refine ⟨(Question.nanBits .f64 n n).cut (w.tape w.drawn (.nanBits .f64 n n)), ?_, ?_⟩
  · exact cut_nan _
  · simp [binOp, Op.floatArith, hs, Question.forced]
theorem nan_eq0 {r : Nat} (h : Flo.isNaN r = true) : (FloatKind.f64.format.order r 0 == some Ordering.eq) = false := by
  have h1 : Flo.inf < Flo.E r := by simpa [Flo.isNaN] using h
  have : FloatKind.f64.format.order r 0 = none := Flo.order_nan_left r 0 h1
  rw [this]; rfl
theorem zeros {n : Nat} (h : n < 18446744073709551616) (hz : Flo.isZ n = true) : n = 0 ∨ n = 9223372036854775808 := by
  have h0 : Flo.E n = 0 := by simpa [Flo.isZ] using hz
  unfold Flo.E at h0
  omega
theorem rmay_any (n : Nat) (w : World) (h : n < 18446744073709551616) : Calls Tryz.prog 36 #[.float .f64 n] w fun e w' => e = .returned (.bool (Flo.may n)) ∧ ∃ k, w' = w.drewN k := by
  have hself : (FloatKind.f64.format.order n n == some Ordering.eq) = !Flo.isNaN n := Flo.self_eq n
  cases hq : Flo.isNaN n
  · rw [hq] at hself
    cases hf : Flo.isFin n
    · obtain ⟨r, hr, hrun⟩ := sub_inf_run n hf w
      have h0 := nan_eq0 hr
      have HM : Hid (Flo.may n = false) := by show _ = _; simp [Flo.may, hf]
      clear hr hq hf h
      go_enter Tryz.func36, Tryz.ntmps36
      go_wp2
      go_ret
      exact ⟨by rw [HM.out]; rfl, 1, rfl⟩
    · have hsub := fun w => run_float_arith (P := Tryz.prog) w .sub 45 .f64 n n 0 (Flo.sub_fin n (by simpa [Flo.isFin] using hf))
      cases hz : Flo.isZ n
      · have hne0 : (FloatKind.f64.format.order n 0 != some Ordering.eq) = true := by show (!(FloatKind.f64.format.order n 0 == some Ordering.eq)) = true; rw [show (FloatKind.f64.format.order n 0 == some Ordering.eq) = Flo.isZ n from Flo.zero_eq n, hz]; rfl
        have HM : Hid (Flo.may n = true) := by show _ = _; simp [Flo.may, hf, hz]
        clear hz hq hf h
        go_enter Tryz.func36, Tryz.ntmps36
        go_wp2
        go_ret
        exact ⟨by rw [HM.out]; rfl, 0, rfl⟩
      · rcases zeros h hz with rfl | rfl
        · have hdiv := fun w => run_float_arith (P := Tryz.prog) w .quo 45 .f64 4607182418800017408 0 9218868437227405312 (by kernel_rfl)
          clear hz hq hf h hself
          go_enter Tryz.func36, Tryz.ntmps36
          go_wp2
          go_ret
          exact ⟨by kernel_rfl, 0, rfl⟩
        · have hdiv := fun w => run_float_arith (P := Tryz.prog) w .quo 45 .f64 4607182418800017408 9223372036854775808 18442240474082181120 (by kernel_rfl)
          clear hz hq hf h hself
          go_enter Tryz.func36, Tryz.ntmps36
          go_wp2
          go_ret
          exact ⟨by kernel_rfl, 0, rfl⟩
  · rw [hq] at hself
    have hfin : Flo.isFin n = false := by rw [← Flo.isFin_eq, hq]; rfl
    have HM : Hid (Flo.may n = false) := by show _ = _; simp [Flo.may, hfin]
    clear hq hfin h
    go_enter Tryz.func36, Tryz.ntmps36
    go_wp2
    go_ret
    exact ⟨by rw [HM.out]; rfl, 0, rfl⟩
theorem rnorm_any (n : Nat) (w : World) : Calls Tryz.prog 34 #[.float .f64 n] w fun e w' => e = .returned (.tuple #[.float .f64 (normV n), .bool (Flo.isFin n)]) ∧ ∃ k, w' = w.drewN k := by
  have HV : Hid (normV n = if Flo.isFin n then (if Flo.isZ n then 0 else n) else 0) := rfl
  have hz0 : (FloatKind.f64.format.order n 0 == some Ordering.eq) = Flo.isZ n := Flo.zero_eq n
  cases hf : Flo.isFin n
  · obtain ⟨r, hr, hrun⟩ := sub_inf_run n hf w
    have h0 : (FloatKind.f64.format.order r 0 != some Ordering.eq) = true := by show (!(FloatKind.f64.format.order r 0 == some Ordering.eq)) = true; rw [nan_eq0 hr]; rfl
    have HF := Lib.hid hf
    clear hr hf hz0
    go_enter Tryz.func34, Tryz.ntmps34
    go_wp2
    go_ret2
    exact ⟨by rw [HV.out, HF.out]; rfl, 1, rfl⟩
  · have hsub := fun w => run_float_arith (P := Tryz.prog) w .sub 45 .f64 n n 0 (Flo.sub_fin n (by simpa [Flo.isFin] using hf))
    have HF := Lib.hid hf
    cases hz : Flo.isZ n
    all_goals
      rw [hz] at hz0
      have HZ := Lib.hid hz
      clear hf hz
      go_enter Tryz.func34, Tryz.ntmps34
      go_wp2
      go_ret2
      exact ⟨by rw [HV.out, HF.out, HZ.out]; rfl, 0, rfl⟩
theorem rbits_any (n : Nat) (w : World) : Calls Tryz.prog 41 #[.float .f64 n] w fun e w' => e = .returned (.int .u64 (bitsV n : Int)) ∧ w = w' := by
  have hne : (FloatKind.f64.format.order n n != some Ordering.eq) = Flo.isNaN n := Flo.self_ne n
  have hb := bits_run n
  have HV : Hid (bitsV n = if Flo.isNaN n then 9221120237041090561 else n) := rfl
  cases hq : Flo.isNaN n
  all_goals
    rw [hq] at hne
    have HQ := Lib.hid hq
    clear hq
    go_enter Tryz.func41, Tryz.ntmps41
    go_wp2
    go_ret
    exact ⟨by rw [HV.out, HQ.out]; rfl, rfl⟩
theorem rless_any (a b : Nat) (w : World) (ha : a < 18446744073709551616) (hb : b < 18446744073709551616) : Calls Tryz.prog 39 #[.float .f64 a, .float .f64 b] w fun e w' => e = .returned (.bool (Flo.lessB a b)) ∧ w = w' := by
  have hna : (FloatKind.f64.format.order a a != some Ordering.eq) = Flo.isNaN a := Flo.self_ne a
  have hnb : (FloatKind.f64.format.order b b != some Ordering.eq) = Flo.isNaN b := Flo.self_ne b
  have hea : (FloatKind.f64.format.order a a == some Ordering.eq) = !Flo.isNaN a := Flo.self_eq a
  cases n1 : Flo.isNaN a
  · rw [n1] at hna hea
    cases n2 : Flo.isNaN b
    · rw [n2] at hnb
      cases z1 : Flo.isZ a
      · have hz1 : (FloatKind.f64.format.order a 0 == some Ordering.eq) = false := (Flo.zero_eq a).trans z1
        have HR : Hid ((FloatKind.f64.format.order a b == some Ordering.lt) = Flo.lessB a b) := Flo.less_lt a b n1 n2 (.inl z1)
        clear n1 n2 z1 ha hb
        go_enter Tryz.func39, Tryz.ntmps39
        go_wp2
        go_ret
        exact ⟨by rw [← HR.out]; rfl, rfl⟩
      · have hz1 : (FloatKind.f64.format.order a 0 == some Ordering.eq) = true := (Flo.zero_eq a).trans z1
        cases z2 : Flo.isZ b
        · have hz2 : (FloatKind.f64.format.order b 0 == some Ordering.eq) = false := (Flo.zero_eq b).trans z2
          have HR : Hid ((FloatKind.f64.format.order a b == some Ordering.lt) = Flo.lessB a b) := Flo.less_lt a b n1 n2 (.inr z2)
          clear n1 n2 z1 z2 ha hb
          go_enter Tryz.func39, Tryz.ntmps39
          go_wp2
          go_ret
          exact ⟨by rw [← HR.out]; rfl, rfl⟩
        · have hd0 := fun w => run_float_arith (P := Tryz.prog) w .quo 45 .f64 4607182418800017408 0 9218868437227405312 (by kernel_rfl)
          have hd1 := fun w => run_float_arith (P := Tryz.prog) w .quo 45 .f64 4607182418800017408 9223372036854775808 18442240474082181120 (by kernel_rfl)
          have h2 := zeros hb z2
          clear hna hnb hea hz1
          rcases zeros ha z1 with rfl | rfl <;> rcases h2 with rfl | rfl
          all_goals
            clear n1 n2 z1 z2 ha hb
            go_enter Tryz.func39, Tryz.ntmps39
            go_wp2
            go_ret
            exact ⟨by kernel_rfl, rfl⟩
    · rw [n2] at hnb
      have HR : Hid (Flo.lessB a b = true) := Flo.less_nan_right a b n1 n2
      clear n1 n2 ha hb
      go_enter Tryz.func39, Tryz.ntmps39
      go_wp2
      go_ret
      exact ⟨by rw [HR.out]; rfl, rfl⟩
  · rw [n1] at hna hea
    have HR : Hid (Flo.lessB a b = false) := Flo.less_nan_left a b n1
    clear n1 hnb ha hb
    go_enter Tryz.func39, Tryz.ntmps39
    go_wp2
    go_ret
    exact ⟨by rw [HR.out]; rfl, rfl⟩

/-! ### Digits -/
theorem hexs_back (i n : Nat) : hexs (i + 1) n = hx (n / 16 ^ i % 16) :: hexs i n := rfl
theorem hx_low (d : Nat) (h : d < 10) : (hx d).toNat = 48 + d := by
  have : ∀ d, d < 10 → (hx d).toNat = 48 + d := by decide
  exact this d h
theorem hx_high (d : Nat) (h1 : ¬ d < 10) (h : d < 16) : (hx d).toNat = 87 + d := by
  have : ∀ d, d < 16 → ¬ d < 10 → (hx d).toNat = 87 + d := by decide
  exact this d h h1
/-- string of one new byte. -/
theorem str_one (x : UInt8) (i : Int) (hi : i = (x.toNat : Int)) (W : World) : (convert 22 9 (.slice (some ⟨W.heap.size, 0, none⟩) 1 1)).run Tryz.prog (W.alloc (.cells #[.int .u8 i] 5)) = .ok (.string ⟨[x].toArray⟩) (W.alloc (.cells #[.int .u8 i] 5)) := by
  subst hi
  refine bytes_str (P := Tryz.prog) 22 9 5 Tryz.underlying22 Tryz.underlying5 Tryz.underlying9 (bs := [x]) ⟨_, 1, rfl, Nat.le_refl _, by unfold maxLen; omega, fun _ => ⟨_, 0, rfl, fun i hi => ?_⟩⟩
  obtain rfl : i = 0 := by simp at hi; exact hi
  exact ((Whole.made W 5 #[.int .u8 (x.toNat : Int)]).at_ 0).trans rfl
set_option maxHeartbeats 2000000 in
theorem rdigs_any (n k : Nat) (w : World) (hn : n < 18446744073709551616) (hk : k ≤ 16) : Calls Tryz.prog 89 #[.int .u64 (n : Int), .int .i64 (k : Int)] w fun e w' => e = .returned (.string ⟨(hexs k n).toArray⟩) ∧ Below w.heap.size w w' := by
  go_enter Tryz.func89, Tryz.ntmps89
  go_wp2
  go_loopw [0, 5, 6] (fun v s i wr => ∃ j : Nat, j ≤ k ∧ v = .int .u64 ((n / 16 ^ j : Nat) : Int) ∧ s = .string ⟨(hexs j n).toArray⟩ ∧ i = .int .i64 (j : Int) ∧ Below w.heap.size w wr) (fun _ _ i _ => k - (intOf i).toNat)
  case atStart => exact ⟨0, by omega, by simp, rfl, rfl, Below.refl _ _⟩
  case round =>
    obtain ⟨j, hj, rfl, rfl, rfl, hB⟩ := hrel
    have HB := Lib.hid hB
    clear hB
    by_cases hlt : j < k
    · have hln : (hexs j n).length ≤ 16 := by rw [hexs_len]; omega
      have HS := Lib.hid (hexs_back j n)
      have HQ : Hid (n / 16 ^ (j + 1) = n / 16 ^ j / 16) := by show _ = _; rw [Nat.pow_succ, Nat.div_div_eq_div_mul]
      have hq : n / 16 ^ j < 18446744073709551616 := Nat.lt_of_le_of_lt (Nat.div_le_self _ _) hn
      generalize n / 16 ^ j = q at *
      generalize hexs j n = l at *
      have hd : q % 16 < 16 := Nat.mod_lt _ (by decide)
      have e1 : (q : Int) % 16 % 256 = ((q % 16 : Nat) : Int) := by omega
      have e0 : (q : Int) % 16 = ((q % 16 : Nat) : Int) := by omega
      have e2 : (q : Int) / 16 = ((q / 16 : Nat) : Int) := by omega
      generalize q / 16 = q2 at *
      generalize q % 16 = d at *
      by_cases hd10 : d < 10
      · have hcv := str_one (hx d) (48 + (d : Int)) (by rw [hx_low d hd10]; omega) wr
        have k1 : decide ((d : Int) < 10) = true := by simp; omega
        have HD := Lib.hid hd10
        clear hd10
        go_wp2
        go_roundw
        case rel => exact ⟨j + 1, by omega, by rw [HQ.out], by rw [HS.out, ba_append [hx d] l]; rfl, by go_num, HB.out.alloc HB.out.size _⟩
        case measure => simp [intOf]; omega
      · have hcv := str_one (hx d) (97 + (d : Int) - 10) (by rw [hx_high d hd10 hd]; omega) wr
        have k1 : decide ((d : Int) < 10) = false := by simp; omega
        have HD := Lib.hid hd10
        clear hd10
        go_wp2
        go_roundw
        case rel => exact ⟨j + 1, by omega, by rw [HQ.out], by rw [HS.out, ba_append [hx d] l]; rfl, by go_num, HB.out.alloc HB.out.size _⟩
        case measure => simp [intOf]; omega
    · obtain rfl : j = k := by omega
      go_wp2
      go_ret
      exact ⟨rfl, HB.out⟩
end Go.Proofs.YtbljoeeekhdjkaaGreatDoor
