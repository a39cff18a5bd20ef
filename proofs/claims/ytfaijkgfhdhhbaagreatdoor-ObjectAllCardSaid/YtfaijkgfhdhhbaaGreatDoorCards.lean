/-
  DERIVED. GIVEN WITH THE SEED: THE CARDS: each row of YtfaijkgfhdhhbaaGreatDoorRows.lean that lists a variable, with what it lists TIED to the program's text (the seventh form; the later family's looks); each row that meets fmt, with fmt's text TOLD by the authors' own Lean function (tested against real Go, not proved from fmt's source: count such statements apart). THE CARD IS WHAT COUNTS. Prove the row's statement (the work); the ties are given (YtfaijkgfhdhhbaaGreatDoorTie.lean); close each card by the builder's one call (the guide's Derived/Test/ToyasCard.lean, 'card_holds'). Laid BY PROGRAM, IN A SANDBOX (cutbox-door.mjs). By AI agents, Wed Nov 11 2026. No macro, syntax, notation, axiom, sorry.
-/
import Derived.Test.YtfaijkgfhdhhbaaGreatDoorRows
import GoSem.ClaimSeven
namespace Go.Proofs.YtfaijkgfhdhhbaaGreatDoor
namespace Rows

/-- THE TIED CARD OF 'colporteurlaw6.ObjectAll'. -/
def objectAllCard : Claim7 := { stood := { row := objectAllRow, standIns := [], harness := (true, "4da850f9b5a022e5a48396da781f5f66e832e77df483165edebe36af68088251"), looks := true }, kinds := [], alts := [], laidByText := true, laidKinds := [.data, .data, .data, .data, .data, .data, .pinned], laidTests := true, laidLooks := .later }
def ObjectAllCardSaid : Prop := Claim7.holds Tryz.pinned (.plain (OpenSpec.ofChange objectAllSpec)) objectAllCard

/-- THE TIED CARD OF 'colporteurlaw6.ObjectOwn'. -/
def objectOwnCard : Claim7 := { stood := { row := objectOwnRow, standIns := [], harness := (true, "4da850f9b5a022e5a48396da781f5f66e832e77df483165edebe36af68088251"), looks := true }, kinds := [], alts := [], laidByText := true, laidKinds := [.data, .data, .data, .data, .data, .data, .pinned], laidTests := true, laidLooks := .later }
def ObjectOwnCardSaid : Prop := Claim7.holds Tryz.pinned (.plain (OpenSpec.ofChange objectOwnSpec)) objectOwnCard

/-- THE SECOND FORM's CARD OF 'colporteurlaw6.ObjectAll'. -/
def objectAllUptoCard : Claim7 := { stood := { row := objectAllUptoRow, standIns := [], harness := (true, "4da850f9b5a022e5a48396da781f5f66e832e77df483165edebe36af68088251"), looks := true }, kinds := [], alts := [], laidByText := true, laidKinds := [.data, .data, .data, .data, .data, .data, .pinned], laidTests := true, laidLooks := .later }
def ObjectAllUptoCardSaid : Prop := Claim7.holds Tryz.pinned (.plain (OpenSpec.upto objectAllSpec)) objectAllUptoCard

/-- THE SECOND FORM's CARD OF 'colporteurlaw6.ObjectOwn'. -/
def objectOwnUptoCard : Claim7 := { stood := { row := objectOwnUptoRow, standIns := [], harness := (true, "4da850f9b5a022e5a48396da781f5f66e832e77df483165edebe36af68088251"), looks := true }, kinds := [], alts := [], laidByText := true, laidKinds := [.data, .data, .data, .data, .data, .data, .pinned], laidTests := true, laidLooks := .later }
def ObjectOwnUptoCardSaid : Prop := Claim7.holds Tryz.pinned (.plain (OpenSpec.upto objectOwnSpec)) objectOwnUptoCard
end Rows
end Go.Proofs.YtfaijkgfhdhhbaaGreatDoor
