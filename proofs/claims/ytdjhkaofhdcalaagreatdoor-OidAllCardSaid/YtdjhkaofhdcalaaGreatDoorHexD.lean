/-
  Numbers out of digits: no walk.
-/
import Derived.Test.YtdjhkaofhdcalaaGreatDoorWhenC
import Derived.Test.YtdjhkaofhdcalaaGreatDoorFloB
namespace Go.Proofs.YtdjhkaofhdcalaaGreatDoor
open Go.RowKit

/-- What Of tells. -/
def ofV (n : Nat) : Nat := if Flo.may n then n else 0

/-- A number out of digits; none of another sign. -/
def hgo : Nat → List UInt8 → Option Nat
  | z, [] => some z
  | z, c :: l => if hval c < 0 then none else hgo (z * 16 + (hval c).toNat) l
def getO : Option Nat → Nat × Bool
  | some n => (ofV n, Flo.may n)
  | none => (0, false)
def getE (l : List UInt8) : Nat × Bool := getO (hgo 0 l)
theorem hval_hx : ∀ d, d < 16 → hval (hx d) = (d : Int) := by decide +kernel
theorem hgo_hexs (j z v : Nat) : hgo z (hexs j v) = some (z * 16 ^ j + v % 16 ^ j) := by
  induction j generalizing z with
  | zero => simp [hexs, hgo, Nat.mod_one]
  | succ j ih =>
    have hd : v / 16 ^ j % 16 < 16 := Nat.mod_lt _ (by decide)
    rw [hexs, hgo, hval_hx _ hd, if_neg (by omega), Int.toNat_natCast, ih]
    congr 1
    have h1 : v % 16 ^ (j + 1) = v / 16 ^ j % 16 * 16 ^ j + v % 16 ^ j := by
      rw [Nat.pow_succ, Nat.mod_mul, Nat.mul_comm (16 ^ j), Nat.add_comm]
    rw [h1, Nat.add_mul, Nat.pow_succ]
    generalize 16 ^ j = q
    have : z * 16 * q = z * (q * 16) := by rw [Nat.mul_assoc, Nat.mul_comm 16 q]
    omega
theorem get_put (n : Nat) (h : n < 18446744073709551616) (hm : Flo.may n = true) : getE (hexs 16 n) = (n, true) := by
  have : hgo 0 (hexs 16 n) = some n := by rw [hgo_hexs, Nat.zero_mul, Nat.zero_add, Nat.mod_eq_of_lt (by simpa using h)]
  simp [getE, getO, this, ofV, hm]
end Go.Proofs.YtdjhkaofhdcalaaGreatDoor
