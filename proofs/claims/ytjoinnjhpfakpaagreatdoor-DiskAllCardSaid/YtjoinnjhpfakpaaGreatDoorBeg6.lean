/-
  The premise of colporteurlaw6's statements, reckoned.
-/
import Derived.Test.YtjoinnjhpfakpaaGreatDoorEgG
namespace Go.Proofs.YtjoinnjhpfakpaaGreatDoor
namespace Eng
open Go.RowKit

set_option maxRecDepth 100000 in
theorem run6 : okk (ec (hookF 264 (quiet qTrue) hk1) (.f 145) [] glob 9) = true := by decide +kernel
end Eng
end Go.Proofs.YtjoinnjhpfakpaaGreatDoor
