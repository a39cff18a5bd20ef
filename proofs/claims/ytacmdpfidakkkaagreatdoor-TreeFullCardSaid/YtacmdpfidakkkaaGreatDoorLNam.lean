/-
  Law 6's name, walked: two signs for a number.
-/
import Derived.Test.YtacmdpfidakkkaaGreatDoorBegS
namespace Go.Proofs.YtacmdpfidakkkaaGreatDoor
open Go.RowKit

def nm2 (k : Nat) : List UInt8 := [UInt8.ofNat (97 + k / 10), UInt8.ofNat (48 + k % 10)]
theorem str_two (x y : UInt8) (i j : Int) (hi : i = (x.toNat : Int)) (hj : j = (y.toNat : Int)) (W : World) : (convert 46 9 (.slice (some ⟨W.heap.size, 0, none⟩) 2 2)).run Tryz.prog (W.alloc (.cells #[.int .u8 i, .int .u8 j] 5)) = .ok (.string ⟨[x, y].toArray⟩) (W.alloc (.cells #[.int .u8 i, .int .u8 j] 5)) := by
  subst hi hj
  exact bytes_str (P := Tryz.prog) 46 9 5 Tryz.underlying46 Tryz.underlying5 Tryz.underlying9 (bytes_new W 5 [x, y] (0, 0) (by show 2 ≤ maxLen; unfold maxLen; decide))
theorem lname_any (k : Nat) (w : World) (hk : k < 100) : Calls Tryz.prog 28 #[.int .i64 (k : Int)] w fun e w' => e = .returned (.string ⟨(nm2 k).toArray⟩) ∧ Below w.heap.size w w' := by
  have HB := Lib.hid ((Below.refl w.heap.size w).alloc (Nat.le_refl _) (.cells #[.int .u8 (97 + (k : Int) / 10), .int .u8 (48 + (k : Int) % 10)] 5))
  have e1 : wrap64 ((k : Int).tdiv 10) = (k : Int) / 10 := by rw [Int.tdiv_eq_ediv_of_nonneg (by omega)]; unfold wrap64; omega
  have e2 : (k : Int).tdiv 10 = (k : Int) / 10 := Int.tdiv_eq_ediv_of_nonneg (by omega)
  have e3 : (k : Int).tmod 10 = (k : Int) % 10 := Int.tmod_eq_emod_of_nonneg (by omega)
  have e4 : wrap64 (97 + (k : Int) / 10) = 97 + (k : Int) / 10 := by unfold wrap64; omega
  have e5 : wrap64 (48 + (k : Int) % 10) = 48 + (k : Int) % 10 := by unfold wrap64; omega
  have e6 : (97 + (k : Int) / 10) % 256 = 97 + (k : Int) / 10 := by omega
  have e7 : (48 + (k : Int) % 10) % 256 = 48 + (k : Int) % 10 := by omega
  have hcv := str_two (UInt8.ofNat (97 + k / 10)) (UInt8.ofNat (48 + k % 10)) (97 + (k : Int) / 10) (48 + (k : Int) % 10) (by simp; omega) (by simp; omega) w
  have HN : Hid (nm2 k = [UInt8.ofNat (97 + k / 10), UInt8.ofNat (48 + k % 10)]) := rfl
  generalize UInt8.ofNat (97 + k / 10) = x at *
  generalize UInt8.ofNat (48 + k % 10) = y at *
  go_enter Tryz.func28, Tryz.ntmps28
  go_wp2
  go_ret
  exact ⟨by rw [HN.out]; rfl, HB.out⟩
end Go.Proofs.YtacmdpfidakkkaaGreatDoor
