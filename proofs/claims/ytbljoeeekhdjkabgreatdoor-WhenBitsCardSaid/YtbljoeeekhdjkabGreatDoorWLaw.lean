/-
  WhenNorm, WhenBits, walked.
-/
import Derived.Test.YtbljoeeekhdjkabGreatDoorBegB
import Derived.Test.YtbljoeeekhdjkabGreatDoorWhenD
namespace Go.Proofs.YtbljoeeekhdjkabGreatDoor
open Go.RowKit

theorem bitsV_num {n : Nat} (h : Flo.isNaN n = false) : bitsV n = n := by simp [bitsV, h]
theorem fin_num {n : Nat} (h : Flo.isFin n = true) : Flo.isNaN n = false := by
  have h1 : Flo.E n < Flo.inf := by simpa [Flo.isFin] using h
  simp [Flo.isNaN]; omega
theorem norm_nan (n : Nat) (w : World) (hE : Env w) (h : n < 18446744073709551616) (hf : Flo.isFin n = false) :
    Calls Tryz.prog 5 #[.float .f64 n] w fun e w' => e = .returned (.bool true) ∧ Below w.heap.size w w' := by
  have hn : ∀ W, Calls Tryz.prog 21 #[.float .f64 n] W fun e w' => e = .returned (.tuple #[.float .f64 (normV n), .bool (Flo.isFin n)]) ∧ W = w' := fun W => norm_any n W h
  have hv : normV n = 0 := by simp [normV, hf]
  rw [hv, hf] at hn
  have HN := Lib.hid hn
  have HN0 : Hid (∀ W, Calls Tryz.prog 21 #[.float .f64 0] W fun e w' => e = .returned (.tuple #[.float .f64 0, .bool true]) ∧ W = w') := fun W => (norm_any 0 W (by decide)).mono fun e w' ⟨he, hw⟩ => ⟨he.trans (by kernel_rfl), hw⟩
  have HI := Lib.hid fun W => isinf_any n W h
  have HE := Lib.hid hE
  have hor : Flo.isNaN n = false → decide (Flo.E n = Flo.inf) = true := by
    intro hq
    have h1 := Flo.isFin_eq n
    rw [hf, hq] at h1
    simpa using h1
  have hne : (FloatKind.f64.format.order n n != some Ordering.eq) = Flo.isNaN n := Flo.self_ne n
  clear hn hv hE h hf
  cases hq : Flo.isNaN n
  · have hi := hor hq
    rw [hi] at HI
    rw [hq] at hne
    clear hor hi hq
    go_enter Tryz.func5, Tryz.ntmps5
    go_wp2_with fail
    refine (begun_any _ HE.out).mono ?_
    rintro e w1 ⟨rfl, hB⟩
    have HB := Lib.hid hB
    clear hB
    go_wp2_with fail
    refine (HN.out _).mono ?_
    rintro e w' ⟨rfl, rfl⟩
    go_wp2_with fail
    refine (HN0.out _).mono ?_
    rintro e w' ⟨rfl, rfl⟩
    go_wp2_with fail
    refine (HI.out _).mono ?_
    rintro e w' ⟨rfl, rfl⟩
    go_wp2
    go_ret
    exact ⟨rfl, HB.out⟩
  · rw [hq] at hne
    clear hor hq
    go_enter Tryz.func5, Tryz.ntmps5
    go_wp2_with fail
    refine (begun_any _ HE.out).mono ?_
    rintro e w1 ⟨rfl, hB⟩
    have HB := Lib.hid hB
    clear hB
    go_wp2_with fail
    refine (HN.out _).mono ?_
    rintro e w' ⟨rfl, rfl⟩
    go_wp2_with fail
    refine (HN0.out _).mono ?_
    rintro e w' ⟨rfl, rfl⟩
    go_wp2
    go_ret
    exact ⟨rfl, HB.out⟩
/-- The two noughts. -/
theorem norm_noughts (n : Nat) (w : World) (hE : Env w) (h : n = 0 ∨ n = 9223372036854775808) :
    Calls Tryz.prog 5 #[.float .f64 n] w fun e w' => e = .returned (.bool true) ∧ Below w.heap.size w w' := by
  have HN : Hid (∀ W, Calls Tryz.prog 21 #[.float .f64 n] W fun e w' => e = .returned (.tuple #[.float .f64 0, .bool true]) ∧ W = w') := by
    intro W
    rcases h with rfl | rfl
    · exact (norm_any 0 W (by decide)).mono fun e w' ⟨he, hw⟩ => ⟨he.trans (by kernel_rfl), hw⟩
    · exact (norm_any 9223372036854775808 W (by decide)).mono fun e w' ⟨he, hw⟩ => ⟨he.trans (by kernel_rfl), hw⟩
  have HN0 : Hid (∀ W, Calls Tryz.prog 21 #[.float .f64 0] W fun e w' => e = .returned (.tuple #[.float .f64 0, .bool true]) ∧ W = w') := fun W => (norm_any 0 W (by decide)).mono fun e w' ⟨he, hw⟩ => ⟨he.trans (by kernel_rfl), hw⟩
  have HB0 : Hid (∀ W, Calls Tryz.prog 17 #[.float .f64 0] W fun e w' => e = .returned (.int .u64 0) ∧ W = w') := fun W => (bits_any 0 W).mono fun e w' ⟨he, hw⟩ => ⟨he.trans (by kernel_rfl), hw⟩
  have HM0 : Hid (∀ W, Calls Tryz.prog 20 #[.float .f64 0] W fun e w' => e = .returned (.bool true) ∧ W = w') := fun W => (may_any 0 W (by decide)).mono fun e w' ⟨he, hw⟩ => ⟨he.trans (by kernel_rfl), hw⟩
  have HE := Lib.hid hE
  clear hE
  rcases h with rfl | rfl
  · go_enter Tryz.func5, Tryz.ntmps5
    go_wp2_with fail
    refine (begun_any _ HE.out).mono ?_
    rintro e w1 ⟨rfl, hB⟩
    have HB := Lib.hid hB
    clear hB
    go_wp2_with (first
      | (go_at_call 21; refine (HN0.out _).mono ?_; rintro e w' ⟨rfl, rfl⟩)
      | (go_at_call 17; refine (HB0.out _).mono ?_; rintro e w' ⟨rfl, rfl⟩)
      | (go_at_call 20; refine (HM0.out _).mono ?_; rintro e w' ⟨rfl, rfl⟩))
    go_ret
    exact ⟨rfl, HB.out⟩
  · have HB1 : Hid (∀ W, Calls Tryz.prog 17 #[.float .f64 9223372036854775808] W fun e w' => e = .returned (.int .u64 9223372036854775808) ∧ W = w') := fun W => (bits_any 9223372036854775808 W).mono fun e w' ⟨he, hw⟩ => ⟨he.trans (by kernel_rfl), hw⟩
    have hdiv := fun w => run_float_arith (P := Tryz.prog) w .quo 30 .f64 4607182418800017408 9223372036854775808 18442240474082181120 (by kernel_rfl)
    go_enter Tryz.func5, Tryz.ntmps5
    go_wp2_with fail
    refine (begun_any _ HE.out).mono ?_
    rintro e w1 ⟨rfl, hB⟩
    have HB := Lib.hid hB
    clear hB
    go_wp2_with fail
    refine (HN.out _).mono ?_
    rintro e w' ⟨rfl, rfl⟩
    go_wp2_with fail
    refine (HN0.out _).mono ?_
    rintro e w' ⟨rfl, rfl⟩
    go_wp2_with fail
    refine (HB0.out _).mono ?_
    rintro e w' ⟨rfl, rfl⟩
    go_wp2_with fail
    refine (HB0.out _).mono ?_
    rintro e w' ⟨rfl, rfl⟩
    go_wp2_with fail
    refine (HM0.out _).mono ?_
    rintro e w' ⟨rfl, rfl⟩
    go_wp2_with fail
    refine (HB0.out _).mono ?_
    rintro e w' ⟨rfl, rfl⟩
    go_wp2_with fail
    refine (HB1.out _).mono ?_
    rintro e w' ⟨rfl, rfl⟩
    go_wp2
    go_ret
    exact ⟨rfl, HB.out⟩
theorem norm_rest (n : Nat) (w : World) (hE : Env w) (h : n < 18446744073709551616) (hf : Flo.isFin n = true) (hz : Flo.isZ n = false) :
    Calls Tryz.prog 5 #[.float .f64 n] w fun e w' => e = .returned (.bool true) ∧ Below w.heap.size w w' := by
  have hn : ∀ W, Calls Tryz.prog 21 #[.float .f64 n] W fun e w' => e = .returned (.tuple #[.float .f64 (normV n), .bool (Flo.isFin n)]) ∧ W = w' := fun W => norm_any n W h
  have hv : normV n = n := by simp [normV, hf, hz]
  rw [hv, hf] at hn
  have HN := Lib.hid hn
  have hb : ∀ W, Calls Tryz.prog 17 #[.float .f64 n] W fun e w' => e = .returned (.int .u64 (bitsV n : Int)) ∧ W = w' := fun W => bits_any n W
  rw [bitsV_num (fin_num hf)] at hb
  have HBI := Lib.hid hb
  have hm : ∀ W, Calls Tryz.prog 20 #[.float .f64 n] W fun e w' => e = .returned (.bool (Flo.may n)) ∧ W = w' := fun W => may_any n W h
  have hmm : Flo.may n = true := by simp [Flo.may, hf, hz]
  rw [hmm] at hm
  have HM := Lib.hid hm
  have heq : (FloatKind.f64.format.order n n == some Ordering.eq) = true := by rw [show (FloatKind.f64.format.order n n == some Ordering.eq) = !Flo.isNaN n from Flo.self_eq n, fin_num hf]; rfl
  have HE := Lib.hid hE
  clear hn hv hE h hf hz hb hm hmm
  go_enter Tryz.func5, Tryz.ntmps5
  go_wp2_with fail
  refine (begun_any _ HE.out).mono ?_
  rintro e w1 ⟨rfl, hB⟩
  have HB := Lib.hid hB
  clear hB
  go_wp2_with (first
    | (go_at_call 21; refine (HN.out _).mono ?_; rintro e w' ⟨rfl, rfl⟩)
    | (go_at_call 17; refine (HBI.out _).mono ?_; rintro e w' ⟨rfl, rfl⟩)
    | (go_at_call 20; refine (HM.out _).mono ?_; rintro e w' ⟨rfl, rfl⟩))
  go_ret
  exact ⟨rfl, HB.out⟩
theorem wnorm_any (n : Nat) (w : World) (hE : Env w) (h : n < 18446744073709551616) :
    Calls Tryz.prog 5 #[.float .f64 n] w fun e w' => e = .returned (.bool true) ∧ Below w.heap.size w w' := by
  cases hf : Flo.isFin n
  · exact norm_nan n w hE h hf
  · cases hz : Flo.isZ n
    · exact norm_rest n w hE h hf hz
    · have h0 : Flo.E n = 0 := by simpa [Flo.isZ] using hz
      unfold Flo.E at h0
      exact norm_noughts n w hE (by omega)

/-! ### WhenBits -/
theorem wbits_nan (n : Nat) (w : World) (hE : Env w) (h : n < 18446744073709551616) (hq : Flo.isNaN n = true) :
    Calls Tryz.prog 4 #[.int .u64 (n : Int)] w fun e w' => e = .returned (.bool true) ∧ Below w.heap.size w w' := by
  have hfr := frombits_run n
  have hfin : Flo.isFin n = false := by rw [← Flo.isFin_eq, hq]; rfl
  have hmm : Flo.may n = false := by simp [Flo.may, hfin]
  have ho : ∀ W, Calls Tryz.prog 16 #[.int .u64 (n : Int)] W fun e w' => e = .returned (.tuple #[.float .f64 (ofV n), .bool (Flo.may n)]) ∧ W = w' := fun W => wof_any n W h
  have hv : ofV n = 0 := by simp [ofV, hmm]
  rw [hv, hmm] at ho
  have hb : ∀ W, Calls Tryz.prog 17 #[.float .f64 n] W fun e w' => e = .returned (.int .u64 (bitsV n : Int)) ∧ W = w' := fun W => bits_any n W
  have hbv : bitsV n = 9221120237041090561 := by simp [bitsV, hq]
  rw [hbv] at hb
  have HO := Lib.hid ho
  have HBI := Lib.hid hb
  have HP := Lib.hid fun W => put_bad n W h hmm
  have hne : (FloatKind.f64.format.order n n != some Ordering.eq) = true := (Flo.self_ne n).trans hq
  have HE := Lib.hid hE
  clear hfin hmm ho hv hb hbv hE h hq
  go_enter Tryz.func4, Tryz.ntmps4
  go_wp2_with fail
  refine (begun_any _ HE.out).mono ?_
  rintro e w1 ⟨rfl, hB⟩
  have HB := Lib.hid hB
  clear hB
  go_wp2_with (first
    | (go_at_call 16; refine (HO.out _).mono ?_; rintro e w' ⟨rfl, rfl⟩)
    | (go_at_call 17; refine (HBI.out _).mono ?_; rintro e w' ⟨rfl, rfl⟩)
    | (go_at_call 18; refine (HP.out _).mono ?_; rintro e w' ⟨rfl, rfl⟩))
  go_ret
  exact ⟨rfl, HB.out⟩
theorem wbits_not (n : Nat) (w : World) (hE : Env w) (h : n < 18446744073709551616) (hq : Flo.isNaN n = false) (hmm : Flo.may n = false) :
    Calls Tryz.prog 4 #[.int .u64 (n : Int)] w fun e w' => e = .returned (.bool true) ∧ Below w.heap.size w w' := by
  have hfr := frombits_run n
  have ho : ∀ W, Calls Tryz.prog 16 #[.int .u64 (n : Int)] W fun e w' => e = .returned (.tuple #[.float .f64 (ofV n), .bool (Flo.may n)]) ∧ W = w' := fun W => wof_any n W h
  have hv : ofV n = 0 := by simp [ofV, hmm]
  rw [hv, hmm] at ho
  have hb : ∀ W, Calls Tryz.prog 17 #[.float .f64 n] W fun e w' => e = .returned (.int .u64 (bitsV n : Int)) ∧ W = w' := fun W => bits_any n W
  rw [bitsV_num hq] at hb
  have hm : ∀ W, Calls Tryz.prog 20 #[.float .f64 n] W fun e w' => e = .returned (.bool (Flo.may n)) ∧ W = w' := fun W => may_any n W h
  rw [hmm] at hm
  have HM := Lib.hid hm
  have HO := Lib.hid ho
  have HBI := Lib.hid hb
  have HP := Lib.hid fun W => put_bad n W h hmm
  have HG := Lib.hid fun W => wget_len [] W (by decide)
  have hne : (FloatKind.f64.format.order n n != some Ordering.eq) = false := (Flo.self_ne n).trans hq
  have HE := Lib.hid hE
  clear hmm ho hv hb hE h hq hm
  go_enter Tryz.func4, Tryz.ntmps4
  go_wp2_with fail
  refine (begun_any _ HE.out).mono ?_
  rintro e w1 ⟨rfl, hB⟩
  have HB := Lib.hid hB
  clear hB
  go_wp2_with (first
    | (go_at_call 16; refine (HO.out _).mono ?_; rintro e w' ⟨rfl, rfl⟩)
    | (go_at_call 17; refine (HBI.out _).mono ?_; rintro e w' ⟨rfl, rfl⟩)
    | (go_at_call 19; refine (HG.out _).mono ?_; rintro e w' ⟨rfl, rfl⟩)
    | (go_at_call 20; refine (HM.out _).mono ?_; rintro e w' ⟨rfl, rfl⟩)
    | (go_at_call 18; refine (HP.out _).mono ?_; rintro e w' ⟨rfl, rfl⟩))
  go_ret
  exact ⟨rfl, HB.out⟩
theorem wbits_may (n : Nat) (w : World) (hE : Env w) (h : n < 18446744073709551616) (hmm : Flo.may n = true) :
    Calls Tryz.prog 4 #[.int .u64 (n : Int)] w fun e w' => e = .returned (.bool true) ∧ Below w.heap.size w w' := by
  have hfin : Flo.isFin n = true := by
    cases hf : Flo.isFin n
    · simp [Flo.may, hf] at hmm
    · rfl
  have hq := fin_num hfin
  have hfr := frombits_run n
  have ho : ∀ W, Calls Tryz.prog 16 #[.int .u64 (n : Int)] W fun e w' => e = .returned (.tuple #[.float .f64 (ofV n), .bool (Flo.may n)]) ∧ W = w' := fun W => wof_any n W h
  have hv : ofV n = n := by simp [ofV, hmm]
  rw [hv, hmm] at ho
  have hb : ∀ W, Calls Tryz.prog 17 #[.float .f64 n] W fun e w' => e = .returned (.int .u64 (bitsV n : Int)) ∧ W = w' := fun W => bits_any n W
  rw [bitsV_num hq] at hb
  have hm : ∀ W, Calls Tryz.prog 20 #[.float .f64 n] W fun e w' => e = .returned (.bool (Flo.may n)) ∧ W = w' := fun W => may_any n W h
  rw [hmm] at hm
  have hp : ∀ W, Calls Tryz.prog 18 #[.float .f64 n] W fun e w' => e = .returned (.string ⟨(hexs 16 (bitsV n)).toArray⟩) ∧ Below W.heap.size W w' := fun W => put_good n W h hmm
  rw [bitsV_num hq] at hp
  have hg : ∀ W, Calls Tryz.prog 19 #[.string ⟨(hexs 16 n).toArray⟩] W fun e w' => e = .returned (.tuple #[.float .f64 (getE (hexs 16 n)).1, .bool (getE (hexs 16 n)).2]) ∧ W = w' := fun W => wget_any _ W (hexs_len _ _)
  rw [get_put n h hmm] at hg
  have HM := Lib.hid hm
  have HO := Lib.hid ho
  have HBI := Lib.hid hb
  have HP := Lib.hid hp
  have HG := Lib.hid hg
  have hne : (FloatKind.f64.format.order n n != some Ordering.eq) = false := (Flo.self_ne n).trans hq
  have heq : (FloatKind.f64.format.order n n == some Ordering.eq) = true := by rw [show (FloatKind.f64.format.order n n == some Ordering.eq) = !Flo.isNaN n from Flo.self_eq n, hq]; rfl
  have HE := Lib.hid hE
  clear hmm ho hv hb hE h hq hm hp hg hfin
  generalize hexs 16 n = t at *
  go_enter Tryz.func4, Tryz.ntmps4
  go_wp2_with fail
  refine (begun_any _ HE.out).mono ?_
  rintro e w1 ⟨rfl, hB⟩
  have HB := Lib.hid hB
  clear hB
  go_wp2_with (go_at_call 16; refine (HO.out _).mono ?_; rintro e w' ⟨rfl, rfl⟩)
  refine (HP.out _).mono ?_
  rintro e w2 ⟨rfl, hB⟩
  have HB2 := Lib.hid (HB.out.trans (hB.mono HB.out.size))
  clear hB
  go_wp2_with (first
    | (go_at_call 17; refine (HBI.out _).mono ?_; rintro e w' ⟨rfl, rfl⟩)
    | (go_at_call 19; refine (HG.out _).mono ?_; rintro e w' ⟨rfl, rfl⟩)
    | (go_at_call 20; refine (HM.out _).mono ?_; rintro e w' ⟨rfl, rfl⟩))
  go_ret
  exact ⟨rfl, HB2.out⟩
theorem wbits_any (n : Nat) (w : World) (hE : Env w) (h : n < 18446744073709551616) :
    Calls Tryz.prog 4 #[.int .u64 (n : Int)] w fun e w' => e = .returned (.bool true) ∧ Below w.heap.size w w' := by
  cases hq : Flo.isNaN n
  · cases hm : Flo.may n
    · exact wbits_not n w hE h hq hm
    · exact wbits_may n w hE h hm
  · exact wbits_nan n w hE h hq
end Go.Proofs.YtbljoeeekhdjkabGreatDoor
