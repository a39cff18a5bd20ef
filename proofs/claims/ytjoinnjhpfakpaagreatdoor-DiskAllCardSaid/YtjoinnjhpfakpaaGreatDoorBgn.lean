/-
  The premises of the laws, in any world that has the package's variables.
-/
import Derived.Test.YtjoinnjhpfakpaaGreatDoorBeg1
import Derived.Test.YtjoinnjhpfakpaaGreatDoorBeg6
import Derived.Test.YtjoinnjhpfakpaaGreatDoorBeg9
import Derived.Test.YtjoinnjhpfakpaaGreatDoorBeg13
namespace Go.Proofs.YtjoinnjhpfakpaaGreatDoor
namespace Eng
open Go.RowKit

theorem begun1 (w : World) (h : GE w) : Calls Tryz.prog 264 #[] w fun e w' => e = .returned (.bool true) ∧ Below w.heap.size w w' := closed (ec_ok hk1_ok) run1 h
theorem hk6_ok (base : Nat) : HookOk Tryz.prog 9 base (hookF 264 (quiet qTrue) hk1) := hookF_ok (true_at ⟨_, _, Tryz.func264, by kernel_rfl, rfl⟩ begun1) (hk1_ok base)
theorem begun6 (w : World) (h : GE w) : Calls Tryz.prog 145 #[] w fun e w' => e = .returned (.bool true) ∧ Below w.heap.size w w' := closed (ec_ok hk6_ok) run6 h
theorem hk9_ok (base : Nat) : HookOk Tryz.prog 9 base (hookF 145 (quiet qTrue) hk1) := hookF_ok (true_at ⟨_, _, Tryz.func145, by kernel_rfl, rfl⟩ begun6) (hk1_ok base)
theorem begun9 (w : World) (h : GE w) : Calls Tryz.prog 52 #[] w fun e w' => e = .returned (.bool true) ∧ Below w.heap.size w w' := closed (ec_ok hk9_ok) run9 h
theorem hk13_ok (base : Nat) : HookOk Tryz.prog 9 base (hookF 52 (quiet qTrue) hk1) := hookF_ok (true_at ⟨_, _, Tryz.func52, by kernel_rfl, rfl⟩ begun9) (hk1_ok base)
theorem begun13 (w : World) (h : GE w) : Calls Tryz.prog 5 #[] w fun e w' => e = .returned (.bool true) ∧ Below w.heap.size w w' := closed (ec_ok hk13_ok) run13 h
noncomputable def hk15 : CallT → CallT := hookF 5 (quiet qTrue) hk1
theorem hk15_ok (base : Nat) : HookOk Tryz.prog 9 base hk15 := hookF_ok (true_at ⟨_, _, Tryz.func5, by kernel_rfl, rfl⟩ begun13) (hk1_ok base)
end Eng
end Go.Proofs.YtjoinnjhpfakpaaGreatDoor
