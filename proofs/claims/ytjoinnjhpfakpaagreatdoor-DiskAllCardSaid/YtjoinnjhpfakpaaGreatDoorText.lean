/-
  Text, walked.
-/
import Derived.Test.YtjoinnjhpfakpaaGreatDoorMha
namespace Go.Proofs.YtjoinnjhpfakpaaGreatDoor
open Go.RowKit

theorem text_any (l : List UInt8) (n : Nat) (w : World) : Calls Tryz.prog 8 #[.string ⟨l.toArray⟩, .int .i64 (n : Int)] w fun e w' => e = .returned (.string ⟨(l.take n).toArray⟩) ∧ w = w' := by
  obtain ⟨m, hm, hm1⟩ : ∃ m, m = min l.length n ∧ m ≤ l.length := ⟨_, rfl, Nat.min_le_left _ _⟩
  have hmin : ∀ W, (Builtin.min_ #[3, 3] 3 #[.int .i64 (l.length : Int), .int .i64 (n : Int)]).run Tryz.prog W = .ok (.int .i64 (m : Int)) W := by
    intro W
    rw [run_min_int2]
    congr 2
    split <;> omega
  have HT : Hid (l.take n = l.take m) := by
    show _ = _
    rcases Nat.le_total l.length n with h | h
    · rw [List.take_of_length_le h, hm, Nat.min_eq_left h, List.take_length]
    · rw [hm, Nat.min_eq_right h]
  clear hm
  go_enter Tryz.func8, Tryz.ntmps8
  go_wp2
  go_ret
  refine ⟨?_, rfl⟩
  rw [HT.out, ByteArray.extract_mk]
  simp
end Go.Proofs.YtjoinnjhpfakpaaGreatDoor
