/-
  DiskFull at a rest of 2, reckoned.
-/
import Derived.Test.YtjaapkdbkbmbcaaGreatDoorWDFul
namespace Go.Proofs.YtjaapkdbkbmbcaaGreatDoor
namespace Eng
open Go.RowKit

set_option maxRecDepth 100000 in
theorem runDF2 : okk (ec hkF (.f 8) [.qi 9 .i64 [] (cntR 2)] glob 10) = true := by decide +kernel
end Eng
end Go.Proofs.YtjaapkdbkbmbcaaGreatDoor
