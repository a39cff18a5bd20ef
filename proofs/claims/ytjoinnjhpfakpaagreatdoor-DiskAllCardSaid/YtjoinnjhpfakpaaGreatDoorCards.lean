/-
  DERIVED. GIVEN WITH THE SEED: THE CARDS: each row of YtjoinnjhpfakpaaGreatDoorRows.lean that lists a variable, with what it lists TIED to the program's text (the seventh form; the later family's looks); each row that meets fmt, with fmt's text TOLD by the authors' own Lean function (tested against real Go, not proved from fmt's source: count such statements apart). THE CARD IS WHAT COUNTS. Prove the row's statement (the work); the ties are given (YtjoinnjhpfakpaaGreatDoorTie.lean); close each card by the builder's one call (the guide's Derived/Test/ToyasCard.lean, 'card_holds'). Laid BY PROGRAM, IN A SANDBOX (cutbox-door.mjs). By AI agents, Wed Nov 11 2026. No macro, syntax, notation, axiom, sorry.
-/
import Derived.Test.YtjoinnjhpfakpaaGreatDoorRows
import GoSem.ClaimSeven
namespace Go.Proofs.YtjoinnjhpfakpaaGreatDoor
namespace Rows

/-- THE TIED CARD OF 'colporteurlaw13.DiskAll'. -/
def diskAllCard : Claim7 := { stood := { row := diskAllRow, standIns := [], harness := (true, "8a99b4befa7ff2bbd0ad76ebdc8ad6cce0bbbb7ea541017930f925f1862cdb53"), looks := true }, kinds := [], alts := [], laidByText := true, laidKinds := [.data, .data, .data, .data, .data, .data, .pinned], laidTests := true, laidLooks := .later }
def DiskAllCardSaid : Prop := Claim7.holds Tryz.pinned (.plain (OpenSpec.ofChange diskAllSpec)) diskAllCard

/-- THE TIED CARD OF 'colporteurlaw13.DiskFuse'. -/
def diskFuseCard : Claim7 := { stood := { row := diskFuseRow, standIns := [], harness := (true, "8a99b4befa7ff2bbd0ad76ebdc8ad6cce0bbbb7ea541017930f925f1862cdb53"), looks := true }, kinds := [], alts := [], laidByText := true, laidKinds := [.data, .data, .data, .data, .data, .data, .pinned], laidTests := true, laidLooks := .later }
def DiskFuseCardSaid : Prop := Claim7.holds Tryz.pinned (.plain (OpenSpec.ofChange diskFuseSpec)) diskFuseCard

/-- THE SECOND FORM's CARD OF 'colporteurlaw13.DiskAll'. -/
def diskAllUptoCard : Claim7 := { stood := { row := diskAllUptoRow, standIns := [], harness := (true, "8a99b4befa7ff2bbd0ad76ebdc8ad6cce0bbbb7ea541017930f925f1862cdb53"), looks := true }, kinds := [], alts := [], laidByText := true, laidKinds := [.data, .data, .data, .data, .data, .data, .pinned], laidTests := true, laidLooks := .later }
def DiskAllUptoCardSaid : Prop := Claim7.holds Tryz.pinned (.plain (OpenSpec.upto diskAllSpec)) diskAllUptoCard

/-- THE SECOND FORM's CARD OF 'colporteurlaw13.DiskFuse'. -/
def diskFuseUptoCard : Claim7 := { stood := { row := diskFuseUptoRow, standIns := [], harness := (true, "8a99b4befa7ff2bbd0ad76ebdc8ad6cce0bbbb7ea541017930f925f1862cdb53"), looks := true }, kinds := [], alts := [], laidByText := true, laidKinds := [.data, .data, .data, .data, .data, .data, .pinned], laidTests := true, laidLooks := .later }
def DiskFuseUptoCardSaid : Prop := Claim7.holds Tryz.pinned (.plain (OpenSpec.upto diskFuseSpec)) diskFuseUptoCard
end Rows
end Go.Proofs.YtjoinnjhpfakpaaGreatDoor
