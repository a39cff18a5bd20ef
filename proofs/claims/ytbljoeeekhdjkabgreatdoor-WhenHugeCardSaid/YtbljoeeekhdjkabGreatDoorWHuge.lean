/-
  WhenHuge, walked.
-/
import Derived.Test.YtbljoeeekhdjkabGreatDoorBegB
import Derived.Test.YtbljoeeekhdjkabGreatDoorWhenD
import Derived.Deep.QuietTactic
import Derived.BigQuiet
import Derived.Deep.RegionHeld3
namespace Go.Proofs.YtbljoeeekhdjkabGreatDoor
open Go.RowKit

theorem inf_pos (w : World) : Calls Tryz.prog 25 #[.int .i64 1] w fun e w' => e = .returned (.float .f64 9218868437227405312) ∧ w = w' := by
  have h3 := frombits_run 9218868437227405312
  rw [show ((9218868437227405312 : Nat) : Int) = 9218868437227405312 from rfl] at h3
  go_enter Tryz.func25, Tryz.ntmps25
  go_wp2
  go_ret
  exact ⟨rfl, rfl⟩
theorem inf_neg (w : World) : Calls Tryz.prog 25 #[.int .i64 (-1)] w fun e w' => e = .returned (.float .f64 18442240474082181120) ∧ w = w' := by
  have h3 := frombits_run 18442240474082181120
  rw [show ((18442240474082181120 : Nat) : Int) = 18442240474082181120 from rfl] at h3
  go_enter Tryz.func25, Tryz.ntmps25
  go_wp2
  go_ret
  exact ⟨rfl, rfl⟩
theorem isnan_is {a : Nat} {r : Bool} (h : Flo.isNaN a = r) : Hid (∀ W, Calls Tryz.prog 49 #[.float .f64 a] W fun e w' => e = .returned (.bool r) ∧ W = w') := by
  subst h
  exact fun W => isnan_any a W
theorem ordB (a b : Nat) (o : Ordering) (r : Bool) (h : (Ieee.double.order a b == some o) = r) : (FloatKind.f64.format.order a b == some o) = r := h
theorem next_down (w : World) : Calls Tryz.prog 23 #[.float .f64 4607182418800017408, .float .f64 0] w fun e w' => e = .returned (.float .f64 4607182418800017407) ∧ w = w' := by
  have h1 := bits_run 4607182418800017408
  have h3 := frombits_run 4607182418800017407
  rw [show ((4607182418800017407 : Nat) : Int) = 4607182418800017407 from rfl] at h3
  rw [show ((4607182418800017408 : Nat) : Int) = 4607182418800017408 from rfl] at h1
  have N1 := isnan_is (show Flo.isNaN 4607182418800017408 = false by decide)
  have N2 := isnan_is (show Flo.isNaN 0 = false by decide)
  have o1 := ordB 4607182418800017408 0 .eq false (by kernel_rfl)
  have o2 := ordB 0 4607182418800017408 .gt false (by kernel_rfl)
  have o3 := ordB 4607182418800017408 0 .gt true (by kernel_rfl)
  go_enter Tryz.func23, Tryz.ntmps23
  go_wp2_with fail
  refine (N1.out _).mono ?_
  rintro e w' ⟨rfl, rfl⟩
  go_wp2_with fail
  refine (N2.out _).mono ?_
  rintro e w' ⟨rfl, rfl⟩
  go_wp2
  go_ret
  exact ⟨rfl, rfl⟩
theorem next_up (w : World) : Calls Tryz.prog 23 #[.float .f64 4607182418800017408, .float .f64 4611686018427387904] w fun e w' => e = .returned (.float .f64 4607182418800017409) ∧ w = w' := by
  have h1 := bits_run 4607182418800017408
  have h3 := frombits_run 4607182418800017409
  rw [show ((4607182418800017409 : Nat) : Int) = 4607182418800017409 from rfl] at h3
  rw [show ((4607182418800017408 : Nat) : Int) = 4607182418800017408 from rfl] at h1
  have N1 := isnan_is (show Flo.isNaN 4607182418800017408 = false by decide)
  have N2 := isnan_is (show Flo.isNaN 4611686018427387904 = false by decide)
  have o0 := ordB 4607182418800017408 4611686018427387904 .eq false (by kernel_rfl)
  have o1 := ordB 4607182418800017408 0 .eq false (by kernel_rfl)
  have o2 := ordB 4611686018427387904 4607182418800017408 .gt true (by kernel_rfl)
  have o3 := ordB 4607182418800017408 0 .gt true (by kernel_rfl)
  go_enter Tryz.func23, Tryz.ntmps23
  go_wp2_with fail
  refine (N1.out _).mono ?_
  rintro e w' ⟨rfl, rfl⟩
  go_wp2_with fail
  refine (N2.out _).mono ?_
  rintro e w' ⟨rfl, rfl⟩
  go_wp2
  go_ret
  exact ⟨rfl, rfl⟩
/-- The nine. -/
def nine : List Nat := [18442240474082181119, 13830554455654793216, 9223372036854775809, 0, 1, 4607182418800017407, 4607182418800017408, 4607182418800017409, 9218868437227405311]
theorem nine_may : ∀ k, k < 9 → Flo.may (nine.getD k 0) = true ∧ nine.getD k 0 < 18446744073709551616 := by decide
theorem nine_less : ∀ k, k < 8 → Flo.lessB (nine.getD k 0) (nine.getD (k + 1) 0) = true ∧ Flo.lessB (nine.getD (k + 1) 0) (nine.getD k 0) = false := by decide
theorem may_is {a : Nat} {r : Bool} (h : Flo.may a = r) (hl : a < 18446744073709551616) : Hid (∀ W, Calls Tryz.prog 20 #[.float .f64 a] W fun e w' => e = .returned (.bool r) ∧ W = w') := by
  subst h
  exact fun W => may_any a W hl
theorem less_iss {a b : Nat} {r : Bool} (h : Flo.lessB a b = r) : Hid (∀ W, Calls Tryz.prog 24 #[.float .f64 a, .float .f64 b] W fun e w' => e = .returned (.bool r) ∧ W = w') := by
  subst h
  exact fun W => less_any a b W
theorem may_bits {a : Nat} (h : Flo.may a = true) : bitsV a = a := by
  have hf : Flo.isFin a = true := by
    cases hf : Flo.isFin a
    · simp [Flo.may, hf] at h
    · rfl
  have h1 : Flo.E a < Flo.inf := by simpa [Flo.isFin] using hf
  have : Flo.isNaN a = false := by simp [Flo.isNaN]; omega
  simp [bitsV, this]
set_option maxRecDepth 100000 in
set_option maxHeartbeats 4000000 in
theorem whuge_any (w : World) (hE : Env w) : Calls Tryz.prog 6 #[] w fun e w' => e = .returned (.bool true) ∧ Below w.heap.size w w' := by
  have HE := Lib.hid hE
  clear hE
  go_enter Tryz.func6, Tryz.ntmps6
  go_wp2_with fail
  refine (next_down _).mono ?_
  rintro e w' ⟨rfl, rfl⟩
  go_wp2_with fail
  refine (next_up _).mono ?_
  rintro e w' ⟨rfl, rfl⟩
  go_wp2_with fail
  have hW := Whole.made w 30 (nine.map (Value.float .f64)).toArray
  have hB0 := (Below.refl w.heap.size w).alloc (Nat.le_refl _) (.cells (nine.map (Value.float .f64)).toArray 30)
  change Code.wp _ _ _ _ (w.alloc (.cells (nine.map (Value.float .f64)).toArray 30))
  generalize w.alloc (.cells (nine.map (Value.float .f64)).toArray 30) = w1 at *
  have HW := Lib.hid hW
  have HB := Lib.hid hB0
  clear hW hB0
  go_loopw [10] (fun i wr => ∃ k : Nat, k ≤ 9 ∧ i = .int .i64 (k : Int) ∧ Below w.heap.size w wr ∧ Whole wr w.heap.size 30 (nine.map (Value.float .f64)).toArray) (fun i _ => 9 - (intOf i).toNat)
  case atStart => exact ⟨0, by omega, rfl, HB.out, HW.out⟩
  case round =>
    obtain ⟨k, hk, rfl, hbr, hwr⟩ := hrel
    have HBR := Lib.hid hbr
    have HWR := Lib.hid hwr
    have hcell : ∀ j, j < 9 → wr.cell? ⟨w.heap.size, j, none⟩ = some (.float .f64 (nine.getD j 0)) := fun j hj => by
      rw [hwr.at_, List.getElem?_toArray]
      have hj' : j < nine.length := hj
      simp [List.getElem?_eq_getElem hj']
    have HC := Lib.hid hcell
    clear hbr hwr hcell
    by_cases hlt : k < 9
    · obtain ⟨hm, hl⟩ := nine_may k hlt
      have hc := HC.out k hlt
      have HM := may_is hm hl
      have HP : Hid (∀ W, Calls Tryz.prog 18 #[.float .f64 (nine.getD k 0)] W fun e w' => e = .returned (.string ⟨(hexs 16 (nine.getD k 0)).toArray⟩) ∧ Below W.heap.size W w') := by
        intro W
        have := put_good (nine.getD k 0) W hl hm
        rw [may_bits hm] at this
        exact this
      have HG : Hid (∀ W, Calls Tryz.prog 19 #[.string ⟨(hexs 16 (nine.getD k 0)).toArray⟩] W fun e w' => e = .returned (.tuple #[.float .f64 (nine.getD k 0), .bool true]) ∧ W = w') := by
        intro W
        have := wget_any _ W (hexs_len 16 (nine.getD k 0))
        rw [get_put _ hl hm] at this
        exact this
      have HBI := Lib.hid fun W => bits_any (nine.getD k 0) W
      have hkk : decide ((k : Int) < 9) = true := by simp; omega
      by_cases h0 : k = 0
      · subst h0
        clear hm hl
        generalize nine.getD 0 0 = n at *
        generalize hexs 16 n = t at *
        go_wp2_with fail
        go_quiet ((go_at_call 20; exact q_left (HM.out _)))
        go_wp2_with fail
        refine (HP.out _).mono ?_
        rintro e w2 ⟨rfl, hB2⟩
        have HB2 := Lib.hid ((be_drewN HBR.out nq).trans (hB2.mono HBR.out.size))
        have hw2 := (HWR.out.drewN nq).below hB2 HWR.out.lt
        have hc2 : w2.cell? ⟨w.heap.size, 0, none⟩ = some (.float .f64 n) := by
          rw [hw2.at_, ← (HWR.out.at_ 0)]
          exact hc
        have HW2 := Lib.hid hw2
        clear hB2 hw2
        go_wp2_with fail
        refine (HG.out _).mono ?_
        rintro e w' ⟨rfl, rfl⟩
        go_wp2_with fail
        go_quiet ((go_at_call 17; exact q_left (HBI.out _)))
        go_wp2
        go_roundw
        case rel => exact ⟨0 + 1, by omega, by go_num, be_drewN HB2.out _, HW2.out.drewN _⟩
        case measure => simp [intOf]
      · obtain ⟨x1, x2⟩ := nine_less (k - 1) (by omega)
        rw [show k - 1 + 1 = k by omega] at x1 x2
        have hc1 := HC.out (k - 1) (by omega)
        have w2 : IntKind.i64.wrap ((k : Int) - 1) = (k : Int) - 1 := IntWalk.i64_in _ (by omega)
        have p2 : (0 : Int) ≤ (k : Int) - 1 := by omega
        have q2 : (1 : Int) ≤ (k : Int) := by omega
        have r2 : (k : Int) - 1 < 9 := by omega
        have n2 : ((k : Int) - 1).toNat = k - 1 := by omega
        have g2 : decide ((0 : Int) < (k : Int)) = true := by simp; omega
        have g3 : (0 : Int) < (k : Int) := by omega
        have g4 : 0 < k := by omega
        have b0 : (0 : Int) ≤ (k : Int) := by omega
        have b1 : (k : Int) < 9 := by omega
        have t1 : ((k : Int)).toNat = k := by omega
        clear hm hl
        generalize nine.getD k 0 = n at *
        generalize nine.getD (k - 1) 0 = m at *
        generalize hexs 16 n = t at *
        go_wp2_with fail
        go_quiet ((first | (go_at_call 20; exact q_left (HM.out _)) | (go_at_call 24; exact q_left (less_any _ _ _))))
        clear w2 p2 q2 r2 n2
        go_wp2_with fail
        refine (HP.out _).mono ?_
        rintro e w2 ⟨rfl, hB2⟩
        have HB2 := Lib.hid ((be_drewN HBR.out nq).trans (hB2.mono HBR.out.size))
        have hw2 := (HWR.out.drewN nq).below hB2 HWR.out.lt
        have hc2 : w2.cell? ⟨w.heap.size, k, none⟩ = some (.float .f64 n) := by
          rw [hw2.at_, ← (HWR.out.at_ k)]
          exact hc
        have HW2 := Lib.hid hw2
        clear hB2 hw2
        go_wp2_with fail
        refine (HG.out _).mono ?_
        rintro e w' ⟨rfl, rfl⟩
        go_wp2_with fail
        go_quiet ((go_at_call 17; exact q_left (HBI.out _)))
        go_wp2
        go_roundw
        case rel => exact ⟨k + 1, by omega, by go_num, be_drewN HB2.out _, HW2.out.drewN _⟩
        case measure => simp [intOf]; omega
    · obtain rfl : k = 9 := by omega
      have hc0 := HC.out 0 (by decide)
      have hc8 := HC.out 8 (by decide)
      clear hlt
      go_wp2_with fail
      have HM1 := may_is (show Flo.may 18442240474082181120 = false by decide) (by decide)
      have HM2 := may_is (show Flo.may 9223372036854775808 = false by decide) (by decide)
      have HL1 := less_iss (show Flo.lessB 18442240474082181120 (nine.getD 0 0) = true by decide)
      have HL2 := less_iss (show Flo.lessB (nine.getD 8 0) 9218868437227405312 = true by decide)
      have HL3 := less_iss (show Flo.lessB 9218868437227405312 9221120237041090561 = true by decide)
      refine wp_region_held_drew (S := fun w' => Below w.heap.size w w' ∧ w.heap.size < w'.heap.size ∧ w'.cell? ⟨w.heap.size, 0, none⟩ = some (.float .f64 (nine.getD 0 0)) ∧ w'.cell? ⟨w.heap.size, 8, none⟩ = some (.float .f64 (nine.getD 8 0))) (by kernel_rfl) ⟨HBR.out.drew, HWR.out.lt, hc0, hc8⟩ (fun hH => ?_)
      refine wpAnyH_ready (rs := [0]) (by kernel_rfl) (by simp) ?_
      refine AllReadyH.cons (o := _) rfl (fun K hK => ?_) AllReadyH.nil
      rw [if_pos (by rfl)]
      go_simp
      refine (begun_any _ (HE.out.at_ hH.1)).mono ?_
      rintro e w' ⟨rfl, hB⟩
      go_simp
      refine hK.out _ _ ⟨hH.1.trans (hB.mono hH.1.size), Nat.lt_of_lt_of_le hH.2.1 hB.size, (hB.cell hH.2.1).trans hH.2.2.1, (hB.cell hH.2.1).trans hH.2.2.2⟩ (fun hH => ?_)
      refine wpAnyH_take (i := 1) (oi := { dst := some 71, op := _, type := _, pos := _, after := _, guard := none }) (v := .bool true) rfl (by kernel_rfl) (by kernel_rfl) (by kernel_rfl) (fun _ _ _ h => h) (Or.inl ⟨by rfl, ?_⟩) hH ?_
      · intro W hSw
        go_simp
      refine wpAnyH_ready (rs := [2]) (by kernel_rfl) (by simp) ?_
      refine AllReadyH.cons (o := _) rfl (fun K hK => ?_) AllReadyH.nil
      rw [if_pos (by rfl)]
      go_simp
      refine (inf_neg _).mono ?_
      rintro e w' ⟨rfl, rfl⟩
      go_simp
      refine hK.out _ _ hH (fun hH => ?_)
      refine wpAnyH_ready (rs := [3]) (by kernel_rfl) (by simp) ?_
      refine AllReadyH.cons (o := _) rfl (fun K hK => ?_) AllReadyH.nil
      rw [if_pos (by rfl)]
      go_simp
      refine (HM1.out _).mono ?_
      rintro e w' ⟨rfl, rfl⟩
      go_simp
      refine hK.out _ _ hH (fun hH => ?_)
      refine wpAnyH_take (i := 4) (oi := { dst := some 74, op := _, type := _, pos := _, after := _, guard := some (1, true) }) (v := .bool true) rfl (by kernel_rfl) (by kernel_rfl) (by kernel_rfl) (fun _ _ _ h => h) (Or.inl ⟨by rfl, ?_⟩) hH ?_
      · intro W hSw
        go_simp
      refine wpAnyH_take (i := 5) (oi := { dst := some 75, op := _, type := _, pos := _, after := _, guard := none }) (v := .bool true) rfl (by kernel_rfl) (by kernel_rfl) (by kernel_rfl) (fun _ _ _ h => h) (Or.inl ⟨by rfl, ?_⟩) hH ?_
      · intro W hSw
        go_simp
      refine wpAnyH_take (i := 6) (oi := { dst := some 76, op := _, type := _, pos := _, after := _, guard := none }) (v := .bool true) rfl (by kernel_rfl) (by kernel_rfl) (by kernel_rfl) (fun _ _ _ h => h) (Or.inl ⟨by rfl, ?_⟩) hH ?_
      · intro W hSw
        go_simp
      refine wpAnyH_ready (rs := [7]) (by kernel_rfl) (by simp) ?_
      refine AllReadyH.cons (o := _) rfl (fun K hK => ?_) AllReadyH.nil
      rw [if_pos (by rfl)]
      go_simp
      refine (copysign_any _).mono ?_
      rintro e w' ⟨rfl, rfl⟩
      go_simp
      refine hK.out _ _ hH (fun hH => ?_)
      refine wpAnyH_ready (rs := [8]) (by kernel_rfl) (by simp) ?_
      refine AllReadyH.cons (o := _) rfl (fun K hK => ?_) AllReadyH.nil
      rw [if_pos (by rfl)]
      go_simp
      refine (HM2.out _).mono ?_
      rintro e w' ⟨rfl, rfl⟩
      go_simp
      refine hK.out _ _ hH (fun hH => ?_)
      refine wpAnyH_take (i := 9) (oi := { dst := some 79, op := _, type := _, pos := _, after := _, guard := some (6, true) }) (v := .bool true) rfl (by kernel_rfl) (by kernel_rfl) (by kernel_rfl) (fun _ _ _ h => h) (Or.inl ⟨by rfl, ?_⟩) hH ?_
      · intro W hSw
        go_simp
      refine wpAnyH_take (i := 10) (oi := { dst := some 80, op := _, type := _, pos := _, after := _, guard := none }) (v := .bool true) rfl (by kernel_rfl) (by kernel_rfl) (by kernel_rfl) (fun _ _ _ h => h) (Or.inl ⟨by rfl, ?_⟩) hH ?_
      · intro W hSw
        go_simp
      refine wpAnyH_take (i := 11) (oi := { dst := some 81, op := _, type := _, pos := _, after := _, guard := none }) (v := .bool true) rfl (by kernel_rfl) (by kernel_rfl) (by kernel_rfl) (fun _ _ _ h => h) (Or.inl ⟨by rfl, ?_⟩) hH ?_
      · intro W hSw
        go_simp
      refine wpAnyH_take (i := 13) (oi := { dst := some 83, op := _, type := _, pos := _, after := _, guard := some (11, true) }) (v := .slice (some ⟨w.heap.size, 0, none⟩) 9 9) rfl (by kernel_rfl) (by kernel_rfl) (by kernel_rfl) (fun _ _ _ h => h) (Or.inl ⟨by rfl, ?_⟩) hH ?_
      · intro W hSw
        go_simp
      refine wpAnyH_take (i := 14) (oi := { dst := some 84, op := _, type := _, pos := _, after := _, guard := some (11, true) }) (v := .pointer (some ⟨w.heap.size, 0, none⟩)) rfl (by kernel_rfl) (by kernel_rfl) (by kernel_rfl) (fun _ _ _ h => h) (Or.inl ⟨by rfl, ?_⟩) hH ?_
      · intro W hSw
        go_simp
      refine wpAnyH_take (i := 15) (oi := { dst := some 85, op := _, type := _, pos := _, after := _, guard := some (11, true) }) (v := .float .f64 (nine.getD 0 0)) rfl (by kernel_rfl) (by kernel_rfl) (by kernel_rfl) (fun _ _ _ h => h) (Or.inl ⟨by rfl, ?_⟩) hH ?_
      · intro W hSw
        obtain ⟨-, -, hcW, -⟩ := hSw
        go_simp
      refine wpAnyH_ready (rs := [12]) (by kernel_rfl) (by simp) ?_
      refine AllReadyH.cons (o := _) rfl (fun K hK => ?_) AllReadyH.nil
      rw [if_pos (by rfl)]
      go_simp
      refine (inf_neg _).mono ?_
      rintro e w' ⟨rfl, rfl⟩
      go_simp
      refine hK.out _ _ hH (fun hH => ?_)
      refine wpAnyH_ready (rs := [16]) (by kernel_rfl) (by simp) ?_
      refine AllReadyH.cons (o := _) rfl (fun K hK => ?_) AllReadyH.nil
      rw [if_pos (by rfl)]
      go_simp
      refine (HL1.out _).mono ?_
      rintro e w' ⟨rfl, rfl⟩
      go_simp
      refine hK.out _ _ hH (fun hH => ?_)
      refine wpAnyH_take (i := 17) (oi := { dst := some 87, op := _, type := _, pos := _, after := _, guard := none }) (v := .bool true) rfl (by kernel_rfl) (by kernel_rfl) (by kernel_rfl) (fun _ _ _ h => h) (Or.inl ⟨by rfl, ?_⟩) hH ?_
      · intro W hSw
        go_simp
      refine wpAnyH_take (i := 18) (oi := { dst := some 88, op := _, type := _, pos := _, after := _, guard := none }) (v := .bool true) rfl (by kernel_rfl) (by kernel_rfl) (by kernel_rfl) (fun _ _ _ h => h) (Or.inl ⟨by rfl, ?_⟩) hH ?_
      · intro W hSw
        go_simp
      refine wpAnyH_take (i := 19) (oi := { dst := some 89, op := _, type := _, pos := _, after := _, guard := some (18, true) }) (v := .slice (some ⟨w.heap.size, 0, none⟩) 9 9) rfl (by kernel_rfl) (by kernel_rfl) (by kernel_rfl) (fun _ _ _ h => h) (Or.inl ⟨by rfl, ?_⟩) hH ?_
      · intro W hSw
        go_simp
      refine wpAnyH_take (i := 20) (oi := { dst := some 90, op := _, type := _, pos := _, after := _, guard := some (18, true) }) (v := .pointer (some ⟨w.heap.size, 8, none⟩)) rfl (by kernel_rfl) (by kernel_rfl) (by kernel_rfl) (fun _ _ _ h => h) (Or.inl ⟨by rfl, ?_⟩) hH ?_
      · intro W hSw
        go_simp
      refine wpAnyH_take (i := 21) (oi := { dst := some 91, op := _, type := _, pos := _, after := _, guard := some (18, true) }) (v := .float .f64 (nine.getD 8 0)) rfl (by kernel_rfl) (by kernel_rfl) (by kernel_rfl) (fun _ _ _ h => h) (Or.inl ⟨by rfl, ?_⟩) hH ?_
      · intro W hSw
        obtain ⟨-, -, -, hcW⟩ := hSw
        go_simp
      refine wpAnyH_ready (rs := [22]) (by kernel_rfl) (by simp) ?_
      refine AllReadyH.cons (o := _) rfl (fun K hK => ?_) AllReadyH.nil
      rw [if_pos (by rfl)]
      go_simp
      refine (inf_pos _).mono ?_
      rintro e w' ⟨rfl, rfl⟩
      go_simp
      refine hK.out _ _ hH (fun hH => ?_)
      refine wpAnyH_ready (rs := [23]) (by kernel_rfl) (by simp) ?_
      refine AllReadyH.cons (o := _) rfl (fun K hK => ?_) AllReadyH.nil
      rw [if_pos (by rfl)]
      go_simp
      refine (HL2.out _).mono ?_
      rintro e w' ⟨rfl, rfl⟩
      go_simp
      refine hK.out _ _ hH (fun hH => ?_)
      refine wpAnyH_take (i := 24) (oi := { dst := some 94, op := _, type := _, pos := _, after := _, guard := none }) (v := .bool true) rfl (by kernel_rfl) (by kernel_rfl) (by kernel_rfl) (fun _ _ _ h => h) (Or.inl ⟨by rfl, ?_⟩) hH ?_
      · intro W hSw
        go_simp
      refine wpAnyH_take (i := 25) (oi := { dst := some 95, op := _, type := _, pos := _, after := _, guard := none }) (v := .bool true) rfl (by kernel_rfl) (by kernel_rfl) (by kernel_rfl) (fun _ _ _ h => h) (Or.inl ⟨by rfl, ?_⟩) hH ?_
      · intro W hSw
        go_simp
      refine wpAnyH_ready (rs := [26]) (by kernel_rfl) (by simp) ?_
      refine AllReadyH.cons (o := _) rfl (fun K hK => ?_) AllReadyH.nil
      rw [if_pos (by rfl)]
      go_simp
      refine (inf_pos _).mono ?_
      rintro e w' ⟨rfl, rfl⟩
      go_simp
      refine hK.out _ _ hH (fun hH => ?_)
      refine wpAnyH_ready (rs := [27]) (by kernel_rfl) (by simp) ?_
      refine AllReadyH.cons (o := _) rfl (fun K hK => ?_) AllReadyH.nil
      rw [if_pos (by rfl)]
      go_simp
      refine (nan_any _).mono ?_
      rintro e w' ⟨rfl, rfl⟩
      go_simp
      refine hK.out _ _ hH (fun hH => ?_)
      refine wpAnyH_ready (rs := [28]) (by kernel_rfl) (by simp) ?_
      refine AllReadyH.cons (o := _) rfl (fun K hK => ?_) AllReadyH.nil
      rw [if_pos (by rfl)]
      go_simp
      refine (HL3.out _).mono ?_
      rintro e w' ⟨rfl, rfl⟩
      go_simp
      refine hK.out _ _ hH (fun hH => ?_)
      refine wpAnyH_take (i := 29) (oi := { dst := some 99, op := _, type := _, pos := _, after := _, guard := none }) (v := .bool true) rfl (by kernel_rfl) (by kernel_rfl) (by kernel_rfl) (fun _ _ _ h => h) (Or.inl ⟨by rfl, ?_⟩) hH ?_
      · intro W hSw
        go_simp
      refine wpAnyH_take (i := 30) (oi := { dst := some 0, op := _, type := _, pos := _, after := _, guard := none }) (v := .bool true) rfl (by kernel_rfl) (by kernel_rfl) (by kernel_rfl) (fun _ _ _ h => h) (Or.inl ⟨by rfl, ?_⟩) hH ?_
      · intro W hSw
        go_simp
      refine wpAnyH_done (by kernel_rfl) ?_ _
      go_wp2
      go_ret
      exact ⟨rfl, hH.1⟩
end Go.Proofs.YtbljoeeekhdjkabGreatDoor
