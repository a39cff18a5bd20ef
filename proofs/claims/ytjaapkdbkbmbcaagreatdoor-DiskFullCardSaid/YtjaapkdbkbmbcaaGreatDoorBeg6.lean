/-
  The premise of colporteurlaw6's statements, reckoned.
-/
import Derived.Test.YtjaapkdbkbmbcaaGreatDoorEgG
namespace Go.Proofs.YtjaapkdbkbmbcaaGreatDoor
namespace Eng
open Go.RowKit

set_option maxRecDepth 100000 in
theorem run6 : okk (ec (hookF 250 (quiet qTrue) hk1) (.f 126) [] glob 9) = true := by decide +kernel
end Eng
end Go.Proofs.YtjaapkdbkbmbcaaGreatDoor
