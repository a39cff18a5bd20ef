/-
  The premise of colporteurlaw13's statements, reckoned.
-/
import Derived.Test.YtjoinnjhpfakpaaGreatDoorEgG
namespace Go.Proofs.YtjoinnjhpfakpaaGreatDoor
namespace Eng
open Go.RowKit

set_option maxRecDepth 100000 in
theorem run13 : okk (ec (hookF 52 (quiet qTrue) hk1) (.f 5) [] glob 9) = true := by decide +kernel
end Eng
end Go.Proofs.YtjoinnjhpfakpaaGreatDoor
