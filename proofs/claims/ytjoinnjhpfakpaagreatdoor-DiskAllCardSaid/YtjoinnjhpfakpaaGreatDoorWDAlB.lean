/-
  DiskAll, with its premise.
-/
import Derived.Test.YtjoinnjhpfakpaaGreatDoorBgn
import Derived.Test.YtjoinnjhpfakpaaGreatDoorOpenQ
import Derived.Test.YtjoinnjhpfakpaaGreatDoorWDAll
namespace Go.Proofs.YtjoinnjhpfakpaaGreatDoor
open Go.RowKit
theorem wdalb_any (A0 : Option Addr) (c0 : Nat) (qs : List Qo) (W : World) (hE : Eng.GE W) (hA : ArgG encQ noQ 6 W A0 c0 qs) (hq : ∀ q ∈ qs, Door.OkQ q) : Calls Tryz.prog 3 #[.slice A0 qs.length c0] W fun e W' => e = .returned (.bool true) ∧ Below W.heap.size W W' :=
  wdall_any A0 c0 qs W hA hq (Eng.begun13 W hE)
end Go.Proofs.YtjoinnjhpfakpaaGreatDoor
