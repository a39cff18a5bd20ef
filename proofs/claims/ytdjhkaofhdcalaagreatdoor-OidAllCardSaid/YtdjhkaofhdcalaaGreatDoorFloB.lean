/-
  An order of all floats, as a number of each. No program is named here.
-/
import Derived.Test.YtdjhkaofhdcalaaGreatDoorFlo
namespace Go.Proofs.YtdjhkaofhdcalaaGreatDoor.Flo
open Ieee

/-- A float's place among all. -/
def rk (n : Nat) : Int := if isNaN n then 18446744073709551616 else if S n then -(E n : Int) - 1 else (E n : Int)
def lessB (a b : Nat) : Bool := decide (rk a < rk b)
def bitsC (n : Nat) : Nat := if isNaN n then 9221120237041090561 else n

theorem rk_nan {a : Nat} (h : isNaN a = true) : rk a = 18446744073709551616 := by simp [rk, h]
theorem rk_num {a : Nat} (h : isNaN a = false) : rk a = if S a then -(E a : Int) - 1 else (E a : Int) := by simp [rk, h]
theorem rk_le (a : Nat) : rk a ≤ 18446744073709551616 := by
  have := E_lt a
  unfold rk
  split
  · omega
  · split <;> omega
theorem rk_lt {a : Nat} (h : isNaN a = false) : rk a < 9223372036854775808 := by
  have := E_lt a
  rw [rk_num h]
  split <;> omega
theorem less_nan_left (a b : Nat) (h : isNaN a = true) : lessB a b = false := by
  have := rk_le b
  unfold lessB
  rw [rk_nan h]
  simp; omega
theorem less_nan_right (a b : Nat) (h : isNaN a = false) (k : isNaN b = true) : lessB a b = true := by
  have := rk_lt h
  unfold lessB
  rw [rk_nan k]
  simp; omega
theorem less_zero (a b : Nat) (ha : isZ a = true) (hb : isZ b = true) : lessB a b = (S a && !S b) := by
  have h1 : E a = 0 := by simpa [isZ] using ha
  have h2 : E b = 0 := by simpa [isZ] using hb
  have n1 : isNaN a = false := by simp [isNaN, h1]
  have n2 : isNaN b = false := by simp [isNaN, h2]
  unfold lessB
  rw [rk_num n1, rk_num n2, h1, h2]
  cases S a <;> cases S b <;> rfl
theorem less_num (a b : Nat) (n1 : isNaN a = false) (n2 : isNaN b = false) (hz : isZ a = false ∨ isZ b = false) : lessB a b = decide (key a < key b) := by
  have hz' : E a ≠ 0 ∨ E b ≠ 0 := by
    rcases hz with h | h
    · exact .inl (by simpa [isZ] using h)
    · exact .inr (by simpa [isZ] using h)
  unfold lessB
  rw [rk_num n1, rk_num n2]
  unfold key
  cases S a <;> cases S b <;> (rw [Bool.eq_iff_iff]; simp only [decide_eq_true_eq, Bool.false_eq_true, if_true, if_false]; try omega)
theorem nan_le {a : Nat} (h : isNaN a = false) : E a ≤ inf := by
  have : ¬ inf < E a := by simpa [isNaN] using h
  omega
theorem less_lt (a b : Nat) (n1 : isNaN a = false) (n2 : isNaN b = false) (hz : isZ a = false ∨ isZ b = false) : (double.order a b == some .lt) = lessB a b := by
  rw [lt_num a b (nan_le n1) (nan_le n2), less_num a b n1 n2 hz]
theorem rk_inj {a b : Nat} (ha : a < 18446744073709551616) (hb : b < 18446744073709551616) : decide (rk a = rk b) = decide (bitsC a = bitsC b) := by
  cases n1 : isNaN a <;> cases n2 : isNaN b
  · rw [rk_num n1, rk_num n2]
    have e1 : bitsC a = a := by simp [bitsC, n1]
    have e2 : bitsC b = b := by simp [bitsC, n2]
    rw [e1, e2]
    congr 1
    apply propext
    cases s1 : S a <;> cases s2 : S b <;> simp only [S, beq_eq_false_iff_ne, beq_iff_eq] at s1 s2 <;> simp only [E] <;> simp <;> omega
  · have h := rk_lt n1
    rw [rk_nan n2]
    have e1 : bitsC a = a := by simp [bitsC, n1]
    have e2 : bitsC b = 9221120237041090561 := by simp [bitsC, n2]
    have hne : a ≠ 9221120237041090561 := by
      rintro rfl
      exact absurd n1 (by decide)
    rw [e1, e2, decide_eq_false hne]
    simp; omega
  · have h := rk_lt n2
    rw [rk_nan n1]
    have e2 : bitsC b = b := by simp [bitsC, n2]
    have e1 : bitsC a = 9221120237041090561 := by simp [bitsC, n1]
    have hne : ¬ 9221120237041090561 = b := by
      rintro rfl
      exact absurd n2 (by decide)
    rw [e1, e2, decide_eq_false hne]
    simp; omega
  · rw [rk_nan n1, rk_nan n2]
    simp [bitsC, n1, n2]
end Go.Proofs.YtdjhkaofhdcalaaGreatDoor.Flo
