/-
  make of bytes.
-/
import Derived.Test.YtdmafodppcbglaaGreatDoorMgg
import Derived.Laws.MakeOwn
namespace Go.Proofs.YtdmafodppcbglaaGreatDoor
open Go.RowKit

/-- Noughts. -/
def zcells (n : Nat) : Array Value := ((List.replicate n (0 : UInt8)).map Y ++ []).toArray
theorem made_bytes (n : Nat) : madeCells (Value.int .u8 0).cells n = zcells n := by
  unfold zcells
  apply Array.ext
  · simp [size_madeCells]
  · intro i h1 h2
    simp [madeCells, Value.cells, Nat.mod_one, Y]
theorem make_bytes (n : Nat) (hn : n ≤ 1048576) (W : World) : (Instr.makeSlice 24 (.int .i64 (n : Int)) (.int .i64 (n : Int))).run Tryz.prog W =
    .ok (.slice (some ⟨W.heap.size, 0, none⟩) n n) (W.alloc (.cells (zcells n) 5)) := by
  obtain ⟨bi, hbi, hz0, hz1, hz2⟩ := info_parts infoB
  have h := run_make (P := Tryz.prog) W 24 5 bi (.int .u8 0) Tryz.underlying24 hbi hz0 .i64 .i64 (n : Int) (n : Int) (by omega) (by omega) (by rw [hz2]; omega) (by omega)
  rw [hz1, Int.toNat_natCast, Nat.mul_one] at h
  rw [h]
  exact congrArg (fun cs => Result.ok (Value.slice (some ⟨W.heap.size, 0, none⟩) n n) (W.alloc (.cells cs 5))) (made_bytes n)
end Go.Proofs.YtdmafodppcbglaaGreatDoor
