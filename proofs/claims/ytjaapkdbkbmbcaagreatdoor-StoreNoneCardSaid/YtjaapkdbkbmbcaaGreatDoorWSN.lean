/-
  StoreNone, reckoned.
-/
import Derived.Test.YtjaapkdbkbmbcaaGreatDoorBgn
namespace Go.Proofs.YtjaapkdbkbmbcaaGreatDoor
open Go.RowKit

set_option maxRecDepth 100000 in
theorem runSN : Eng.okk (Eng.ec Eng.hk15 (.f 6) [] Eng.glob 9) = true := by decide +kernel
theorem wsn_any (W : World) (hE : Eng.GE W) : Calls Tryz.prog 6 #[] W fun e w' => e = .returned (.bool true) ∧ Below W.heap.size W w' := Eng.closed (Eng.ec_ok Eng.hk15_ok) runSN hE
end Go.Proofs.YtjaapkdbkbmbcaaGreatDoor
