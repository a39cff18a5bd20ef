/-
  DERIVED. GIVEN WITH THE SEED: THE CARDS: each row of YtbljoeeekhdjkabGreatDoorRows.lean that lists a variable, with what it lists TIED to the program's text (the seventh form; the later family's looks); each row that meets fmt, with fmt's text TOLD by the authors' own Lean function (tested against real Go, not proved from fmt's source: count such statements apart). THE CARD IS WHAT COUNTS. Prove the row's statement (the work); the ties are given (YtbljoeeekhdjkabGreatDoorTie.lean); close each card by the builder's one call (the guide's Derived/Test/ToyasCard.lean, 'card_holds'). Laid BY PROGRAM, IN A SANDBOX (cutbox-door.mjs). By AI agents, Wed Nov 11 2026. No macro, syntax, notation, axiom, sorry.
-/
import Derived.Test.YtbljoeeekhdjkabGreatDoorRows
import GoSem.ClaimSeven
namespace Go.Proofs.YtbljoeeekhdjkabGreatDoor
namespace Rows

/-- THE TIED CARD OF 'colporteurlaw1.GuardOwn'. -/
def guardOwnCard : Claim7 := { stood := { row := guardOwnRow, standIns := [], harness := (true, "ae046c9724a14852c12be7ebf04c79f497368f8bc4aef46a1a70956582493d32"), looks := true }, kinds := [], alts := [], laidByText := true, laidKinds := [.data, .data, .data, .data, .data], laidTests := true, laidLooks := .later }
def GuardOwnCardSaid : Prop := Claim7.holds Tryz.pinned (.plain (OpenSpec.ofChange guardOwnSpec)) guardOwnCard

/-- THE TIED CARD OF 'colporteurlaw1.WhenBits'. -/
def whenBitsCard : Claim7 := { stood := { row := whenBitsRow, standIns := [], harness := (true, "ae046c9724a14852c12be7ebf04c79f497368f8bc4aef46a1a70956582493d32"), looks := true }, kinds := [], alts := [], laidByText := true, laidKinds := [.data, .data, .data, .data, .data], laidTests := true, laidLooks := .later }
def WhenBitsCardSaid : Prop := Claim7.holds Tryz.pinned (.plain (OpenSpec.ofChange whenBitsSpec)) whenBitsCard

/-- THE TIED CARD OF 'colporteurlaw1.WhenNorm'. -/
def whenNormCard : Claim7 := { stood := { row := whenNormRow, standIns := [], harness := (true, "ae046c9724a14852c12be7ebf04c79f497368f8bc4aef46a1a70956582493d32"), looks := true }, kinds := [], alts := [], laidByText := true, laidKinds := [.data, .data, .data, .data, .data], laidTests := true, laidLooks := .later }
def WhenNormCardSaid : Prop := Claim7.holds Tryz.pinned (.plain (OpenSpec.ofChange whenNormSpec)) whenNormCard

/-- THE TIED CARD OF 'colporteurlaw1.WhenHuge'. -/
def whenHugeCard : Claim7 := { stood := { row := whenHugeRow, standIns := [], harness := (true, "ae046c9724a14852c12be7ebf04c79f497368f8bc4aef46a1a70956582493d32"), looks := true }, kinds := [], alts := [], laidByText := true, laidKinds := [.data, .data, .data, .data, .data], laidTests := true, laidLooks := .later }
def WhenHugeCardSaid : Prop := Claim7.holds Tryz.pinned (.plain (OpenSpec.ofChange whenHugeSpec)) whenHugeCard

/-- THE TIED CARD OF 'colporteurlaw1.OidSort'. -/
def oidSortCard : Claim7 := { stood := { row := oidSortRow, standIns := [], harness := (true, "ae046c9724a14852c12be7ebf04c79f497368f8bc4aef46a1a70956582493d32"), looks := true }, kinds := [], alts := [], laidByText := true, laidKinds := [.data, .data, .data, .data, .data], laidTests := true, laidLooks := .later }
def OidSortCardSaid : Prop := Claim7.holds Tryz.pinned (.plain (OpenSpec.ofChange oidSortSpec)) oidSortCard

/-- THE TIED CARD OF 'colporteurlaw1.OidHex'. -/
def oidHexCard : Claim7 := { stood := { row := oidHexRow, standIns := [], harness := (true, "ae046c9724a14852c12be7ebf04c79f497368f8bc4aef46a1a70956582493d32"), looks := true }, kinds := [], alts := [], laidByText := true, laidKinds := [.data, .data, .data, .data, .data], laidTests := true, laidLooks := .later }
def OidHexCardSaid : Prop := Claim7.holds Tryz.pinned (.plain (OpenSpec.ofChange oidHexSpec)) oidHexCard

/-- THE TIED CARD OF 'colporteurlaw1.LineEdge'. -/
def lineEdgeCard : Claim7 := { stood := { row := lineEdgeRow, standIns := [], harness := (true, "ae046c9724a14852c12be7ebf04c79f497368f8bc4aef46a1a70956582493d32"), looks := true }, kinds := [], alts := [], laidByText := true, laidKinds := [.data, .data, .data, .data, .data], laidTests := true, laidLooks := .later }
def LineEdgeCardSaid : Prop := Claim7.holds Tryz.pinned (.plain (OpenSpec.ofChange lineEdgeSpec)) lineEdgeCard

/-- THE TIED CARD OF 'colporteurlaw1.LineDigits'. -/
def lineDigitsCard : Claim7 := { stood := { row := lineDigitsRow, standIns := [], harness := (true, "ae046c9724a14852c12be7ebf04c79f497368f8bc4aef46a1a70956582493d32"), looks := true }, kinds := [], alts := [], laidByText := true, laidKinds := [.data, .data, .data, .data, .data], laidTests := true, laidLooks := .later }
def LineDigitsCardSaid : Prop := Claim7.holds Tryz.pinned (.plain (OpenSpec.ofChange lineDigitsSpec)) lineDigitsCard

/-- THE SECOND FORM's CARD OF 'colporteurlaw1.GuardOwn'. -/
def guardOwnUptoCard : Claim7 := { stood := { row := guardOwnUptoRow, standIns := [], harness := (true, "ae046c9724a14852c12be7ebf04c79f497368f8bc4aef46a1a70956582493d32"), looks := true }, kinds := [], alts := [], laidByText := true, laidKinds := [.data, .data, .data, .data, .data], laidTests := true, laidLooks := .later }
def GuardOwnUptoCardSaid : Prop := Claim7.holds Tryz.pinned (.plain (OpenSpec.upto guardOwnSpec)) guardOwnUptoCard

/-- THE SECOND FORM's CARD OF 'colporteurlaw1.WhenBits'. -/
def whenBitsUptoCard : Claim7 := { stood := { row := whenBitsUptoRow, standIns := [], harness := (true, "ae046c9724a14852c12be7ebf04c79f497368f8bc4aef46a1a70956582493d32"), looks := true }, kinds := [], alts := [], laidByText := true, laidKinds := [.data, .data, .data, .data, .data], laidTests := true, laidLooks := .later }
def WhenBitsUptoCardSaid : Prop := Claim7.holds Tryz.pinned (.plain (OpenSpec.upto whenBitsSpec)) whenBitsUptoCard

/-- THE SECOND FORM's CARD OF 'colporteurlaw1.WhenNorm'. -/
def whenNormUptoCard : Claim7 := { stood := { row := whenNormUptoRow, standIns := [], harness := (true, "ae046c9724a14852c12be7ebf04c79f497368f8bc4aef46a1a70956582493d32"), looks := true }, kinds := [], alts := [], laidByText := true, laidKinds := [.data, .data, .data, .data, .data], laidTests := true, laidLooks := .later }
def WhenNormUptoCardSaid : Prop := Claim7.holds Tryz.pinned (.plain (OpenSpec.upto whenNormSpec)) whenNormUptoCard

/-- THE SECOND FORM's CARD OF 'colporteurlaw1.WhenHuge'. -/
def whenHugeUptoCard : Claim7 := { stood := { row := whenHugeUptoRow, standIns := [], harness := (true, "ae046c9724a14852c12be7ebf04c79f497368f8bc4aef46a1a70956582493d32"), looks := true }, kinds := [], alts := [], laidByText := true, laidKinds := [.data, .data, .data, .data, .data], laidTests := true, laidLooks := .later }
def WhenHugeUptoCardSaid : Prop := Claim7.holds Tryz.pinned (.plain (OpenSpec.upto whenHugeSpec)) whenHugeUptoCard

/-- THE SECOND FORM's CARD OF 'colporteurlaw1.OidSort'. -/
def oidSortUptoCard : Claim7 := { stood := { row := oidSortUptoRow, standIns := [], harness := (true, "ae046c9724a14852c12be7ebf04c79f497368f8bc4aef46a1a70956582493d32"), looks := true }, kinds := [], alts := [], laidByText := true, laidKinds := [.data, .data, .data, .data, .data], laidTests := true, laidLooks := .later }
def OidSortUptoCardSaid : Prop := Claim7.holds Tryz.pinned (.plain (OpenSpec.upto oidSortSpec)) oidSortUptoCard

/-- THE SECOND FORM's CARD OF 'colporteurlaw1.OidHex'. -/
def oidHexUptoCard : Claim7 := { stood := { row := oidHexUptoRow, standIns := [], harness := (true, "ae046c9724a14852c12be7ebf04c79f497368f8bc4aef46a1a70956582493d32"), looks := true }, kinds := [], alts := [], laidByText := true, laidKinds := [.data, .data, .data, .data, .data], laidTests := true, laidLooks := .later }
def OidHexUptoCardSaid : Prop := Claim7.holds Tryz.pinned (.plain (OpenSpec.upto oidHexSpec)) oidHexUptoCard

/-- THE SECOND FORM's CARD OF 'colporteurlaw1.LineEdge'. -/
def lineEdgeUptoCard : Claim7 := { stood := { row := lineEdgeUptoRow, standIns := [], harness := (true, "ae046c9724a14852c12be7ebf04c79f497368f8bc4aef46a1a70956582493d32"), looks := true }, kinds := [], alts := [], laidByText := true, laidKinds := [.data, .data, .data, .data, .data], laidTests := true, laidLooks := .later }
def LineEdgeUptoCardSaid : Prop := Claim7.holds Tryz.pinned (.plain (OpenSpec.upto lineEdgeSpec)) lineEdgeUptoCard

/-- THE SECOND FORM's CARD OF 'colporteurlaw1.LineDigits'. -/
def lineDigitsUptoCard : Claim7 := { stood := { row := lineDigitsUptoRow, standIns := [], harness := (true, "ae046c9724a14852c12be7ebf04c79f497368f8bc4aef46a1a70956582493d32"), looks := true }, kinds := [], alts := [], laidByText := true, laidKinds := [.data, .data, .data, .data, .data], laidTests := true, laidLooks := .later }
def LineDigitsUptoCardSaid : Prop := Claim7.holds Tryz.pinned (.plain (OpenSpec.upto lineDigitsSpec)) lineDigitsUptoCard
end Rows
end Go.Proofs.YtbljoeeekhdjkabGreatDoor
