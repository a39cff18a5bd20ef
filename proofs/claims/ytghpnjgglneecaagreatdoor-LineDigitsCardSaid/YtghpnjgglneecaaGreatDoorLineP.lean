/-
  Lines, as they are put, read again: no walk.
-/
import Derived.Test.YtghpnjgglneecaaGreatDoorHexD
namespace Go.Proofs.YtghpnjgglneecaaGreatDoor
open Go.RowKit

theorem lenGo_hexs (n : Nat) (r : List UInt8) (h : n ≤ 1004) : lenGo 4 0 (hexs 4 n ++ r) = .inl n := by
  have e : hexs 4 n ++ r = hx (n / 4096 % 16) :: hx (n / 256 % 16) :: hx (n / 16 % 16) :: hx (n / 1 % 16) :: r := rfl
  have d3 := hval_hx (n / 4096 % 16) (Nat.mod_lt _ (by decide))
  have d2 := hval_hx (n / 256 % 16) (Nat.mod_lt _ (by decide))
  have d1 := hval_hx (n / 16 % 16) (Nat.mod_lt _ (by decide))
  have d0 := hval_hx (n / 1 % 16) (Nat.mod_lt _ (by decide))
  rw [e]
  simp only [lenGo, d3, d2, d1, d0, Int.toNat_natCast]
  rw [if_neg (by omega), if_pos (by omega), if_neg (by omega), if_pos (by omega), if_neg (by omega), if_pos (by omega), if_neg (by omega), if_pos (by omega)]
  congr 1
  omega
theorem firstV_line (s r : List UInt8) (h0 : s ≠ []) (h : s.length ≤ 1000) : firstV (hexs 4 (4 + s.length) ++ s ++ r) = .inl (1, s, 4 + s.length) := by
  have hp : 0 < s.length := List.length_pos_iff.2 h0
  unfold firstV
  rw [List.append_assoc, lenGo_hexs _ _ (by omega)]
  dsimp only
  have hl : (hexs 4 (4 + s.length)).length = 4 := hexs_len 4 _
  rw [if_neg (by omega), if_neg (by omega), if_neg (by omega), if_neg (by simp [hl] <;> omega)]
  congr 2
  rw [List.take_append, List.take_of_length_le (by omega), hl, List.drop_append, List.drop_of_length_le (by omega), hl]
  simp
theorem firstV_flush (r : List UInt8) : firstV (48 :: 48 :: 48 :: 48 :: r) = .inl (2, [], 4) := by
  have h := lenGo_hexs 0 r (by decide)
  have e : hexs 4 0 ++ r = 48 :: 48 :: 48 :: 48 :: r := rfl
  rw [e] at h
  unfold firstV
  rw [h]
  rfl
theorem firstV_delim (r : List UInt8) : firstV (48 :: 48 :: 48 :: 49 :: r) = .inl (3, [], 4) := by
  have h := lenGo_hexs 1 r (by decide)
  have e : hexs 4 1 ++ r = 48 :: 48 :: 48 :: 49 :: r := rfl
  rw [e] at h
  unfold firstV
  rw [h]
  rfl
end Go.Proofs.YtghpnjgglneecaaGreatDoor
