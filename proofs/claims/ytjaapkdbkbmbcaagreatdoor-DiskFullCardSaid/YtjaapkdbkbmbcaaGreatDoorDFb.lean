/-
  DiskFull at a rest of 1, reckoned.
-/
import Derived.Test.YtjaapkdbkbmbcaaGreatDoorWDFul
namespace Go.Proofs.YtjaapkdbkbmbcaaGreatDoor
namespace Eng
open Go.RowKit

set_option maxRecDepth 100000 in
theorem runDF1 : okk (ec hkF (.f 8) [.qi 9 .i64 [] (cntR 1)] glob 10) = true := by decide +kernel
end Eng
end Go.Proofs.YtjaapkdbkbmbcaaGreatDoor
