/-
  The premise of colporteurlaw13's statements, reckoned.
-/
import Derived.Test.YtjaapkdbkbmbcaaGreatDoorEgG
namespace Go.Proofs.YtjaapkdbkbmbcaaGreatDoor
namespace Eng
open Go.RowKit

set_option maxRecDepth 100000 in
theorem run13 : okk (ec (hookF 14 (quiet qTrue) hk1) (.f 23) [] glob 9) = true := by decide +kernel
end Eng
end Go.Proofs.YtjaapkdbkbmbcaaGreatDoor
