/-
  Quotients and products of floats that are no NaN: there is one.
-/
import Derived.Test.YtghpnjgglneecaaGreatDoorFlo
import Derived.Laws.FloatArith
namespace Go.Proofs.YtghpnjgglneecaaGreatDoor.Flo
open Ieee

theorem E_word (s : Bool) (r : Nat) (h : r ≤ inf) : E (double.word s r) ≤ inf := by
  have e1 : double.signWeight = 9223372036854775808 := by decide
  unfold Format.word E
  rw [e1]
  unfold inf at *
  split <;> omega
theorem E_near (s : Bool) (m : Nat) (i : Int) : E (double.nearest s m i) ≤ inf := by
  have e3 : double.infRung = inf := by decide
  unfold Format.nearest
  dsimp only
  split
  · exact E_word s 0 (Nat.zero_le _)
  · rw [e3]
    exact E_word s _ (Nat.min_le_right _ _)
theorem E_inf (s : Bool) : E (double.word s double.infRung) ≤ inf := E_word s _ (by decide)
theorem read_num (n : Nat) (h : E n ≤ inf) : (∃ m i, double.read n = .number (S n) m i) ∨ double.read n = .infinity (S n) := by
  rcases Nat.lt_or_ge (E n) inf with h1 | h1
  · exact .inl ⟨_, _, read_fin n h1⟩
  · exact .inr (read_inf n (by omega))
theorem quo_some (x y : Nat) (hx : E x ≤ inf) (t : Bool) (n : Nat) (j : Int) (hy : double.read y = .number t n j) (hn : n ≠ 0) : ∃ q, floatBits .quo .f64 x y = some q ∧ E q ≤ inf := by
  show ∃ q, double.div x y = some q ∧ _
  unfold Format.div
  rw [hy]
  rcases read_num x hx with ⟨m, i, h⟩ | h
  · rw [h]
    unfold Datum.quotient
    dsimp only
    rw [if_neg hn]
    exact ⟨_, rfl, E_near _ _ _⟩
  · rw [h]
    exact ⟨_, rfl, E_inf _⟩
theorem mul_some (x y : Nat) (hx : E x ≤ inf) (t : Bool) (n : Nat) (j : Int) (hy : double.read y = .number t n j) (hn : n ≠ 0) : ∃ q, floatBits .mul .f64 x y = some q ∧ E q ≤ inf := by
  show ∃ q, double.mul x y = some q ∧ _
  unfold Format.mul
  rw [hy]
  rcases read_num x hx with ⟨m, i, h⟩ | h
  · rw [h]
    exact ⟨_, rfl, E_near _ _ _⟩
  · rw [h]
    unfold Datum.product
    dsimp only
    rw [if_neg hn]
    exact ⟨_, rfl, E_inf _⟩
theorem E_int (n : Int) : E (floatOfInt .f64 n) ≤ inf := E_near _ _ _
end Go.Proofs.YtghpnjgglneecaaGreatDoor.Flo
