/-
  The premise of colporteurlaw9's statements, reckoned.
-/
import Derived.Test.YtjaapkdbkbmbcaaGreatDoorEgG
namespace Go.Proofs.YtjaapkdbkbmbcaaGreatDoor
namespace Eng
open Go.RowKit

set_option maxRecDepth 100000 in
theorem run9 : okk (ec (hookF 126 (quiet qTrue) hk1) (.f 14) [] glob 9) = true := by decide +kernel
end Eng
end Go.Proofs.YtjaapkdbkbmbcaaGreatDoor
