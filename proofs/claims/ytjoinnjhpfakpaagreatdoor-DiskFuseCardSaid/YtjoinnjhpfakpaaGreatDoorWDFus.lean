/-
  DiskFuse, with its premise.
-/
import Derived.Test.YtjoinnjhpfakpaaGreatDoorBgn
import Derived.Test.YtjoinnjhpfakpaaGreatDoorWFus
namespace Go.Proofs.YtjoinnjhpfakpaaGreatDoor
open Go.RowKit
theorem wdfus_any (n m : Int) (k : Nat) (W : World) (hE : Eng.GE W) (hk : k < 18446744073709551616) : Calls Tryz.prog 4 #[.int .i64 n, .int .i64 m, .int .u64 (k : Int)] W fun e W' => e = .returned (.bool true) ∧ Below W.heap.size W W' :=
  wfus_any n m k hk W (Eng.begun13 W hE)
end Go.Proofs.YtjoinnjhpfakpaaGreatDoor
