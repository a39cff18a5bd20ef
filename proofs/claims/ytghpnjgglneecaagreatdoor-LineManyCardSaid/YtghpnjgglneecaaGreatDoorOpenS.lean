/-
  Slices of strings that a row hands over, opened.
-/
import Derived.Test.YtghpnjgglneecaaGreatDoorOpen
import Derived.Test.YtghpnjgglneecaaGreatDoorLinD
import Derived.SliceStrings
namespace Go.Proofs.YtghpnjgglneecaaGreatDoor.Door
open Go.RowKit Go.ChangeShapes Go.WideShapes Go.ChangeAt

theorem ceS : Tryz.prog.cellsOf 9 = 1 := by kernel_rfl
section
variable {H : Type} {enc : TypeId × Value → H} {W : World} {base : Nat} {v : Value} {d : DataW H} {p : List MemPlace}
set_option maxRecDepth 100000 in
theorem open_strs (hval : Value.okWide Tryz.prog W .any base 36 v) (h : DataW.Trod enc Tryz.prog W 0 (fun _ => true) true 36 v d p) :
    ∃ A c ls, v = .slice A (List.length ls) c ∧ Arg W A c (ls.map S) := by
  obtain ⟨a0, len, cap, rfl⟩ := okWide_slice Tryz.underlying36 hval
  obtain ⟨fuel, hf⟩ := h
  rcases open_strings Tryz.underlying36 Tryz.underlying9 ceS hf with ⟨hcs, hx⟩ | ⟨a, len', cap', zs, hcs, _, hl, hm, hz, hx, hcell, hwz⟩
  · simp [Value.cells] at hcs
    obtain ⟨rfl, rfl, rfl⟩ := hcs
    exact ⟨none, 0, [], rfl, Nat.le_refl _, Nat.zero_le _, .inl ⟨rfl, rfl⟩⟩
  · simp [Value.cells] at hcs
    obtain ⟨rfl, rfl, rfl⟩ := hcs
    simp only [if_true] at hz
    have hy : ∀ z : ByteArray, Value.string z = S z.data.toList := by
      intro z
      cases z
      simp [S]
    refine ⟨some a, cap, (zs.take len).map fun z => z.data.toList, by rw [List.length_map, List.length_take, Nat.min_eq_left (by omega)], ?_, hm, .inr ⟨a, rfl, ?_⟩⟩
    · rw [List.length_map, List.length_map, List.length_take]; omega
    · intro j u hu
      rw [List.map_map, List.getElem?_map, Option.map_eq_some_iff] at hu
      obtain ⟨z, hzj, rfl⟩ := hu
      rw [List.getElem?_take] at hzj
      split at hzj
      · have hj : j < zs.length := by
          rw [List.getElem?_eq_some_iff] at hzj
          exact hzj.1
        rw [hcell j hj]
        have e : zs.getD j ByteArray.empty = z := by simp [List.getD, hzj]
        rw [e]
        exact congrArg some (hy z)
      · cases hzj
end
end Go.Proofs.YtghpnjgglneecaaGreatDoor.Door
