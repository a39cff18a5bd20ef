/-
  make of bytes.
  Slices of strings that a row hands over, opened.
-/
import Derived.Test.YtacmdpfidakkkaaGreatDoorMgg
import Derived.Laws.MakeOwn
import Derived.Test.YtacmdpfidakkkaaGreatDoorMge
import Derived.SliceStrings
namespace Go.Proofs.YtacmdpfidakkkaaGreatDoor
open Go.RowKit

/-- Noughts. -/
def zcells (n : Nat) : Array Value := ((List.replicate n (0 : UInt8)).map Y ++ []).toArray
theorem made_bytes (n : Nat) : madeCells (Value.int .u8 0).cells n = zcells n := by
  unfold zcells
  apply Array.ext
  · simp [size_madeCells]
  · intro i h1 h2
    simp [madeCells, Value.cells, Nat.mod_one, Y]
theorem make_bytes (n : Nat) (hn : n ≤ 1048576) (W : World) : (Instr.makeSlice 46 (.int .i64 (n : Int)) (.int .i64 (n : Int))).run Tryz.prog W =
    .ok (.slice (some ⟨W.heap.size, 0, none⟩) n n) (W.alloc (.cells (zcells n) 5)) := by
  obtain ⟨bi, hbi, hz0, hz1, hz2⟩ := info_parts infoB
  have h := run_make (P := Tryz.prog) W 46 5 bi (.int .u8 0) Tryz.underlying46 hbi hz0 .i64 .i64 (n : Int) (n : Int) (by omega) (by omega) (by rw [hz2]; omega) (by omega)
  rw [hz1, Int.toNat_natCast, Nat.mul_one] at h
  rw [h]
  exact congrArg (fun cs => Result.ok (Value.slice (some ⟨W.heap.size, 0, none⟩) n n) (W.alloc (.cells cs 5))) (made_bytes n)
end Go.Proofs.YtacmdpfidakkkaaGreatDoor
namespace Go.Proofs.YtacmdpfidakkkaaGreatDoor.Door
open Go.RowKit Go.ChangeShapes Go.WideShapes Go.ChangeAt

theorem ceS : Tryz.prog.cellsOf 9 = 1 := by kernel_rfl
section
variable {H : Type} {enc : TypeId × Value → H} {W : World} {base : Nat} {v : Value} {d : DataW H} {p : List MemPlace}
set_option maxRecDepth 100000 in
theorem open_strs (hval : Value.okWide Tryz.prog W .any base 30 v) (h : DataW.Trod enc Tryz.prog W 0 (fun _ => true) true 30 v d p) :
    ∃ A c ls, v = .slice A (List.length ls) c ∧ Arg W A c (ls.map S) := by
  obtain ⟨a0, len, cap, rfl⟩ := okWide_slice Tryz.underlying30 hval
  obtain ⟨fuel, hf⟩ := h
  rcases open_strings Tryz.underlying30 Tryz.underlying9 ceS hf with ⟨hcs, hx⟩ | ⟨a, len', cap', zs, hcs, _, hl, hm, hz, hx, hcell, hwz⟩
  · simp [Value.cells] at hcs
    obtain ⟨rfl, rfl, rfl⟩ := hcs
    exact ⟨none, 0, [], rfl, Nat.le_refl _, Nat.zero_le _, .inl ⟨rfl, rfl⟩⟩
  · simp [Value.cells] at hcs
    obtain ⟨rfl, rfl, rfl⟩ := hcs
    simp only [if_true] at hz
    have hy : ∀ z : ByteArray, Value.string z = S z.data.toList := by
      intro z
      cases z
      simp [S]
    refine ⟨some a, cap, (zs.take len).map fun z => z.data.toList, by rw [List.length_map, List.length_take, Nat.min_eq_left (by omega)], ?_, hm, .inr ⟨a, rfl, ?_⟩⟩
    · rw [List.length_map, List.length_map, List.length_take]; omega
    · intro j u hu
      rw [List.map_map, List.getElem?_map, Option.map_eq_some_iff] at hu
      obtain ⟨z, hzj, rfl⟩ := hu
      rw [List.getElem?_take] at hzj
      split at hzj
      · have hj : j < zs.length := by
          rw [List.getElem?_eq_some_iff] at hzj
          exact hzj.1
        rw [hcell j hj]
        have e : zs.getD j ByteArray.empty = z := by simp [List.getD, hzj]
        rw [e]
        exact congrArg some (hy z)
      · cases hzj
end
end Go.Proofs.YtacmdpfidakkkaaGreatDoor.Door
