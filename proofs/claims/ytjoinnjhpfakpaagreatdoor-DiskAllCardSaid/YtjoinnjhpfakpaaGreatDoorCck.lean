/-
  strings.Builder's copyCheck, walked.
-/
import Derived.Test.YtjoinnjhpfakpaaGreatDoorMha
import Derived.Test.YtjoinnjhpfakpaaGreatDoorProg
import Derived.Handy
import Derived.Defers
import Derived.WalkLawsBesides
import Derived.Lib.Builder
import Derived.Laws.IdiomStrings
namespace Go.Proofs.YtjoinnjhpfakpaaGreatDoor
open Go.RowKit

abbrev BT : TypeId := 132
theorem bld_lies : liesAt Tryz.prog Tryz.prog.depth BT (2 / Tryz.prog.cellsOf BT) 0 BT 1 = true := by kernel_rfl
theorem cchk_fresh (b : Nat) (w : World) (h0 : w.cell? ⟨b, 0, none⟩ = some (.pointer none)) (hsh : w.shape? b = some (BT, 2)) (hz : w.frozen? ⟨b, 0, none⟩ = false) :
    Calls Tryz.prog 122 #[.pointer (some ⟨b, 0, none⟩)] w fun e w' => e = .returned (.tuple #[]) ∧ w' = w.setCell ⟨b, 0, none⟩ (.pointer (some ⟨b, 0, none⟩)) := by
  obtain ⟨j, hj⟩ : ∃ j, Tryz.prog.info? BT = some j := Option.isSome_iff_exists.1 (by kernel_rfl)
  have hjs : j.size ≠ 0 := by
    have : (Tryz.prog.info? BT).map (fun i => decide (i.size ≠ 0)) = some true := by kernel_rfl
    rw [hj] at this
    simpa using this
  have q1 := Lib.run_to_unsafe w (src := 130) (dst := 250) ⟨b, 0, none⟩ Tryz.underlying130 Tryz.underlying250 hj hjs hsh (by show 0 < 2; decide)
  have q2 := Lib.run_from_unsafe w (src := 250) (dst := 130) ⟨b, 0, none⟩ Tryz.underlying250 Tryz.underlying130 hj hsh bld_lies
  have q4 := fun W => Lib.run_neq_ptr_same (P := Tryz.prog) W (tp := 130) ⟨b, 0, none⟩ Tryz.underlying130 hj
  have q3 : (callFunc 176 #[.pointer (some ⟨b, 0, none⟩)]).run Tryz.prog w = .ok (.value (.pointer (some ⟨b, 0, none⟩))) w := by
    rw [run_callFunc_extern Tryz.func176 (by kernel_rfl) (by kernel_rfl) (by kernel_rfl) (e := Extern.AbiNoEscape.same) (by kernel_rfl), Lib.run_noEscape]
    rfl
  go_enter Tryz.func122, Tryz.ntmps122
  go_wp2
  go_end0
  exact ⟨rfl, rfl⟩
theorem cchk_used (b : Nat) (w : World) (h0 : w.cell? ⟨b, 0, none⟩ = some (.pointer (some ⟨b, 0, none⟩))) :
    Calls Tryz.prog 122 #[.pointer (some ⟨b, 0, none⟩)] w fun e w' => e = .returned (.tuple #[]) ∧ w' = w := by
  obtain ⟨j, hj⟩ : ∃ j, Tryz.prog.info? BT = some j := Option.isSome_iff_exists.1 (by kernel_rfl)
  have q4 := fun W => Lib.run_neq_ptr_same (P := Tryz.prog) W (tp := 130) ⟨b, 0, none⟩ Tryz.underlying130 hj
  go_enter Tryz.func122, Tryz.ntmps122
  go_wp2
  go_end0
  exact ⟨rfl, rfl⟩
end Go.Proofs.YtjoinnjhpfakpaaGreatDoor
