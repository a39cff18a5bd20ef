/-
  The premise of colporteurlaw1's statements, reckoned.
-/
import Derived.Test.YtjoinnjhpfakpaaGreatDoorEgG
namespace Go.Proofs.YtjoinnjhpfakpaaGreatDoor
namespace Eng
open Go.RowKit

set_option maxRecDepth 100000 in
theorem run1 : okk (ec hk1 (.f 264) [] glob 9) = true := by decide +kernel
end Eng
end Go.Proofs.YtjoinnjhpfakpaaGreatDoor
