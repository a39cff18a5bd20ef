/-
  WhenOrder, walked.
-/
import Derived.Test.YtbljoeeekhdjkaaGreatDoorBegB
import Derived.Test.YtbljoeeekhdjkaaGreatDoorWhenD
namespace Go.Proofs.YtbljoeeekhdjkaaGreatDoor
open Go.RowKit

/-- A call of Less whose answer is known. -/
theorem less_is {a b : Nat} {r : Bool} (h : Flo.lessB a b = r) : Hid (∀ W, Calls Tryz.prog 38 #[.float .f64 a, .float .f64 b] W fun e w' => e = .returned (.bool r) ∧ W = w') := by
  subst h
  exact fun W => less_any a b W
theorem worder_any (a b c : Nat) (w : World) (hE : Env w) (ha : a < 18446744073709551616) (hb : b < 18446744073709551616) :
    Calls Tryz.prog 8 #[.float .f64 a, .float .f64 b, .float .f64 c] w fun e w' => e = .returned (.bool true) ∧ Below w.heap.size w w' := by
  have HE := Lib.hid hE
  have heq : ((bitsV a : Int) == (bitsV b : Int)) = decide (Flo.rk a = Flo.rk b) := by
    rw [Flo.rk_inj ha hb]
    show _ = decide (bitsV a = bitsV b)
    rw [Bool.eq_iff_iff]
    simp
    exact Int.ofNat_inj
  have HBA := Lib.hid fun W => bits_any a W
  have HBB := Lib.hid fun W => bits_any b W
  have L1 := less_is (show Flo.lessB 9221120237041090561 a = false from Flo.less_nan_left _ _ (by decide))
  have L2 := less_is (show Flo.lessB 9223372036854775808 0 = true by decide)
  have L3 := less_is (show Flo.lessB 0 9223372036854775808 = false by decide)
  have hne : (FloatKind.f64.format.order a a != some Ordering.eq) = Flo.isNaN a := Flo.self_ne a
  have L4 : Flo.isNaN a = false → Flo.lessB a 9221120237041090561 = true := fun h => Flo.less_nan_right _ _ h (by decide)
  have hthree : (Flo.rk a < Flo.rk b) ∨ (Flo.rk a = Flo.rk b) ∨ (Flo.rk b < Flo.rk a) := by omega
  clear hE ha hb
  have HT := Lib.hid hthree
  clear hthree
  -- the end, alike on all ways
  have HEND : Hid (∀ r, Flo.isNaN a = r → (FloatKind.f64.format.order a a != some Ordering.eq) = r ∧ (r = false → Hid (∀ W, Calls Tryz.prog 38 #[.float .f64 a, .float .f64 9221120237041090561] W fun e w' => e = .returned (.bool true) ∧ W = w'))) := by
    intro r hr
    exact ⟨hne.trans hr, fun h => less_is (L4 (hr.trans h))⟩
  clear hne L4
  rcases HT.out with ht | ht | ht
  · have x1 : Flo.lessB a b = true := by unfold Flo.lessB; simpa using ht
    have y1 : Flo.lessB b a = false := by unfold Flo.lessB; simp; omega
    have e1 : decide (Flo.rk a = Flo.rk b) = false := by simp; omega
    rw [e1] at heq
    have A1 := less_is x1
    have A2 := less_is y1
    cases h3 : Flo.lessB b c
    · have A3 := less_is h3
      cases hn : Flo.isNaN a
      all_goals
        obtain ⟨k1, k2⟩ := HEND.out _ hn
        have K2 := Lib.hid k2
        clear HT ht x1 y1 e1 h3 hn k2
        go_enter Tryz.func8, Tryz.ntmps8
        go_wp2_with fail
        refine (begun_any _ HE.out).mono ?_
        rintro e w1 ⟨rfl, hB⟩
        have HB := Lib.hid hB
        clear hB
        go_wp2_with fail
        refine (A1.out _).mono ?_
        rintro e w' ⟨rfl, rfl⟩
        go_wp2_with fail
        refine (A2.out _).mono ?_
        rintro e w' ⟨rfl, rfl⟩
        go_wp2_with fail
        refine (HBA.out _).mono ?_
        rintro e w' ⟨rfl, rfl⟩
        go_wp2_with fail
        refine (HBB.out _).mono ?_
        rintro e w' ⟨rfl, rfl⟩
        go_wp2_with fail
        refine (A3.out _).mono ?_
        rintro e w' ⟨rfl, rfl⟩
        go_wp2_with (first
          | (go_at_call 48; refine (copysign_any _).mono ?_; rintro e w' ⟨rfl, rfl⟩)
          | (go_at_call 49; refine (nan_any _).mono ?_; rintro e w' ⟨rfl, rfl⟩))
        refine (L1.out _).mono ?_
        rintro e w' ⟨rfl, rfl⟩
        go_wp2_with fail
        refine (L2.out _).mono ?_
        rintro e w' ⟨rfl, rfl⟩
        go_wp2_with fail
        refine (L3.out _).mono ?_
        rintro e w' ⟨rfl, rfl⟩
      · go_wp2_with (go_at_call 49; refine (nan_any _).mono ?_; rintro e w' ⟨rfl, rfl⟩)
        refine ((K2.out (by trivial)).out _).mono ?_
        rintro e w' ⟨rfl, rfl⟩
        go_wp2
        go_ret
        exact ⟨rfl, HB.out⟩
      · go_wp2
        go_ret
        exact ⟨rfl, HB.out⟩
    · have A3 := less_is h3
      have h4 : Flo.lessB a c = true := by unfold Flo.lessB at h3 ⊢; simp at h3 ⊢; omega
      have A4 := less_is h4
      cases hn : Flo.isNaN a
      all_goals
        obtain ⟨k1, k2⟩ := HEND.out _ hn
        have K2 := Lib.hid k2
        clear HT ht x1 y1 e1 h3 hn k2 h4
        go_enter Tryz.func8, Tryz.ntmps8
        go_wp2_with fail
        refine (begun_any _ HE.out).mono ?_
        rintro e w1 ⟨rfl, hB⟩
        have HB := Lib.hid hB
        clear hB
        go_wp2_with fail
        refine (A1.out _).mono ?_
        rintro e w' ⟨rfl, rfl⟩
        go_wp2_with fail
        refine (A2.out _).mono ?_
        rintro e w' ⟨rfl, rfl⟩
        go_wp2_with fail
        refine (HBA.out _).mono ?_
        rintro e w' ⟨rfl, rfl⟩
        go_wp2_with fail
        refine (HBB.out _).mono ?_
        rintro e w' ⟨rfl, rfl⟩
        go_wp2_with fail
        refine (A3.out _).mono ?_
        rintro e w' ⟨rfl, rfl⟩
        go_wp2_with fail
        refine (A4.out _).mono ?_
        rintro e w' ⟨rfl, rfl⟩
        go_wp2_with (first
          | (go_at_call 48; refine (copysign_any _).mono ?_; rintro e w' ⟨rfl, rfl⟩)
          | (go_at_call 49; refine (nan_any _).mono ?_; rintro e w' ⟨rfl, rfl⟩))
        refine (L1.out _).mono ?_
        rintro e w' ⟨rfl, rfl⟩
        go_wp2_with fail
        refine (L2.out _).mono ?_
        rintro e w' ⟨rfl, rfl⟩
        go_wp2_with fail
        refine (L3.out _).mono ?_
        rintro e w' ⟨rfl, rfl⟩
      · go_wp2_with (go_at_call 49; refine (nan_any _).mono ?_; rintro e w' ⟨rfl, rfl⟩)
        refine ((K2.out (by trivial)).out _).mono ?_
        rintro e w' ⟨rfl, rfl⟩
        go_wp2
        go_ret
        exact ⟨rfl, HB.out⟩
      · go_wp2
        go_ret
        exact ⟨rfl, HB.out⟩
  all_goals
    have hxy : Flo.lessB a b = false ∧ Flo.lessB b a = !decide (Flo.rk a = Flo.rk b) := by unfold Flo.lessB; refine ⟨by simp; omega, by rw [Bool.eq_iff_iff]; simp; omega⟩
    obtain ⟨x1, y1⟩ := hxy
    have e1 : decide (Flo.rk a = Flo.rk b) = true ∨ decide (Flo.rk a = Flo.rk b) = false := by cases decide (Flo.rk a = Flo.rk b) <;> simp
    first
      | (have e2 : decide (Flo.rk a = Flo.rk b) = true := by simp; omega)
      | (have e2 : decide (Flo.rk a = Flo.rk b) = false := by simp; omega)
    rw [e2] at heq y1
    have A1 := less_is x1
    have A2 := less_is y1
    cases hn : Flo.isNaN a
    all_goals
      obtain ⟨k1, k2⟩ := HEND.out _ hn
      have K2 := Lib.hid k2
      clear HT ht x1 y1 e1 e2 hn k2
      go_enter Tryz.func8, Tryz.ntmps8
      go_wp2_with fail
      refine (begun_any _ HE.out).mono ?_
      rintro e w1 ⟨rfl, hB⟩
      have HB := Lib.hid hB
      clear hB
      go_wp2_with fail
      refine (A1.out _).mono ?_
      rintro e w' ⟨rfl, rfl⟩
      go_wp2_with fail
      refine (A2.out _).mono ?_
      rintro e w' ⟨rfl, rfl⟩
      go_wp2_with fail
      refine (HBA.out _).mono ?_
      rintro e w' ⟨rfl, rfl⟩
      go_wp2_with fail
      refine (HBB.out _).mono ?_
      rintro e w' ⟨rfl, rfl⟩
      go_wp2_with (first
        | (go_at_call 48; refine (copysign_any _).mono ?_; rintro e w' ⟨rfl, rfl⟩)
        | (go_at_call 49; refine (nan_any _).mono ?_; rintro e w' ⟨rfl, rfl⟩))
      refine (L1.out _).mono ?_
      rintro e w' ⟨rfl, rfl⟩
      go_wp2_with fail
      refine (L2.out _).mono ?_
      rintro e w' ⟨rfl, rfl⟩
      go_wp2_with fail
      refine (L3.out _).mono ?_
      rintro e w' ⟨rfl, rfl⟩
    · go_wp2_with (go_at_call 49; refine (nan_any _).mono ?_; rintro e w' ⟨rfl, rfl⟩)
      refine ((K2.out (by trivial)).out _).mono ?_
      rintro e w' ⟨rfl, rfl⟩
      go_wp2
      go_ret
      exact ⟨rfl, HB.out⟩
    · go_wp2
      go_ret
      exact ⟨rfl, HB.out⟩
end Go.Proofs.YtbljoeeekhdjkaaGreatDoor
