/-
  The premise of colporteurlaw9's statements, reckoned.
-/
import Derived.Test.YtjoinnjhpfakpaaGreatDoorEgG
namespace Go.Proofs.YtjoinnjhpfakpaaGreatDoor
namespace Eng
open Go.RowKit

set_option maxRecDepth 100000 in
theorem run9 : okk (ec (hookF 145 (quiet qTrue) hk1) (.f 52) [] glob 9) = true := by decide +kernel
end Eng
end Go.Proofs.YtjoinnjhpfakpaaGreatDoor
