/-
  What oid.Get makes of 64 digits: the model.
-/
import Derived.Test.YtdjhkaofhdcalaaGreatDoorHexD
namespace Go.Proofs.YtdjhkaofhdcalaaGreatDoor
open Go.RowKit
def hd (s : List UInt8) (i : Nat) : Nat := (hval (s.getD i 0)).toNat
theorem hd_lt (s : List UInt8) (i : Nat) : hd s i < 16 := by
  have := hval_lt (s.getD i 0)
  unfold hd; omega
/-- The name's byte j when i digits have been read. -/
def idn (s : List UInt8) (i j : Nat) : Nat := if 2 * j + 1 < i then hd s (2 * j) * 16 + hd s (2 * j + 1) else if 2 * j < i then hd s (2 * j) else 0
theorem idn_lt (s : List UInt8) (i j : Nat) : idn s i j < 256 := by
  have h1 := hd_lt s (2 * j)
  have h2 := hd_lt s (2 * j + 1)
  unfold idn; split <;> (try split) <;> omega
theorem idn_low (s : List UInt8) (k : Nat) : idn s k (k / 2) < 16 := by
  have h1 := hd_lt s (2 * (k / 2))
  unfold idn; split
  · omega
  · split <;> omega
def idl (s : List UInt8) (i : Nat) : List UInt8 := (List.range 32).map fun j => UInt8.ofNat (idn s i j)
theorem idl_len (s : List UInt8) (i : Nat) : (idl s i).length = 32 := by simp [idl]
theorem idl_zero (s : List UInt8) : idl s 0 = List.replicate 32 0 := by
  apply List.ext_getElem
  · simp [idl]
  · intro j h1 h2
    rw [List.getElem_replicate]
    simp [idl, idn]
theorem idn_step (s : List UInt8) (k : Nat) : idn s k (k / 2) * 16 + hd s k = idn s (k + 1) (k / 2) := by
  obtain ⟨j, hj | hj⟩ : ∃ j, k = 2 * j ∨ k = 2 * j + 1 := ⟨k / 2, by omega⟩
  · subst hj
    rw [show 2 * j / 2 = j by omega]
    unfold idn
    rw [if_neg (by omega), if_neg (by omega), if_neg (by omega), if_pos (by omega)]
    omega
  · subst hj
    rw [show (2 * j + 1) / 2 = j by omega]
    unfold idn
    rw [if_neg (by omega), if_pos (by omega), if_pos (by omega)]
theorem idn_other (s : List UInt8) (k j : Nat) (h : j ≠ k / 2) : idn s k j = idn s (k + 1) j := by
  unfold idn
  have e1 : (2 * j + 1 < k) ↔ (2 * j + 1 < k + 1) := by omega
  have e2 : (2 * j < k) ↔ (2 * j < k + 1) := by omega
  simp only [e1, e2]
theorem idl_step (s : List UInt8) (k : Nat) : (idl s k).set (k / 2) (UInt8.ofNat (idn s k (k / 2) * 16 + hd s k)) = idl s (k + 1) := by
  apply List.ext_getElem
  · simp [idl]
  · intro j h1 h2
    rw [List.getElem_set]
    split
    · rename_i h
      subst h
      rw [idn_step]
      simp [idl]
    · rename_i h
      simp only [idl, List.getElem_map, List.getElem_range]
      rw [idn_other s k j (fun e => h e.symm)]
/-- The same, pair by pair. -/
theorem idl_pair (s : List UInt8) (j : Nat) (hj : j < 32) : (idl s 64).getD j 0 = UInt8.ofNat (hd s (2 * j) * 16 + hd s (2 * j + 1)) := by
  rw [List.getD_eq_getElem?_getD, List.getElem?_eq_getElem (by rw [idl_len]; exact hj)]
  simp only [idl, List.getElem_map, List.getElem_range, Option.getD_some]
  unfold idn
  rw [if_pos (by omega)]
def good (s : List UInt8) : Bool := s.length == 64 && s.all fun c => decide (0 ≤ hval c)
def getId (s : List UInt8) : List UInt8 × Bool := if good s then (idl s 64, true) else (List.replicate 32 0, false)
end Go.Proofs.YtdjhkaofhdcalaaGreatDoor
