/-
  DERIVED. GIVEN WITH THE SEED: THE CARDS: each row of YtghpnjgglneecaaGreatDoorRows.lean that lists a variable, with what it lists TIED to the program's text (the seventh form; the later family's looks); each row that meets fmt, with fmt's text TOLD by the authors' own Lean function (tested against real Go, not proved from fmt's source: count such statements apart). THE CARD IS WHAT COUNTS. Prove the row's statement (the work); the ties are given (YtghpnjgglneecaaGreatDoorTie.lean); close each card by the builder's one call (the guide's Derived/Test/ToyasCard.lean, 'card_holds'). Laid BY PROGRAM, IN A SANDBOX (cutbox-door.mjs). By AI agents, Wed Nov 11 2026. No macro, syntax, notation, axiom, sorry.
-/
import Derived.Test.YtghpnjgglneecaaGreatDoorRows
import GoSem.ClaimSeven
namespace Go.Proofs.YtghpnjgglneecaaGreatDoor
namespace Rows

/-- THE TIED CARD OF 'colporteurlaw1.ShaAll'. -/
def shaAllCard : Claim7 := { stood := { row := shaAllRow, standIns := [], harness := (true, "a4e30e29621f4355d37897df8d0a4941520f33afbeaf7544e8480c5241e2f1fb"), looks := true }, kinds := [], alts := [], laidByText := true, laidKinds := [.data, .data, .data, .data, .data], laidTests := true, laidLooks := .later }
def ShaAllCardSaid : Prop := Claim7.holds Tryz.pinned (.plain (OpenSpec.ofChange shaAllSpec)) shaAllCard

/-- THE TIED CARD OF 'colporteurlaw1.ShaLong'. -/
def shaLongCard : Claim7 := { stood := { row := shaLongRow, standIns := [], harness := (true, "a4e30e29621f4355d37897df8d0a4941520f33afbeaf7544e8480c5241e2f1fb"), looks := true }, kinds := [], alts := [], laidByText := true, laidKinds := [.data, .data, .data, .data, .data], laidTests := true, laidLooks := .later }
def ShaLongCardSaid : Prop := Claim7.holds Tryz.pinned (.plain (OpenSpec.ofChange shaLongSpec)) shaLongCard

/-- THE TIED CARD OF 'colporteurlaw1.WhenSize'. -/
def whenSizeCard : Claim7 := { stood := { row := whenSizeRow, standIns := [], harness := (true, "a4e30e29621f4355d37897df8d0a4941520f33afbeaf7544e8480c5241e2f1fb"), looks := true }, kinds := [], alts := [], laidByText := true, laidKinds := [.data, .data, .data, .data, .data], laidTests := true, laidLooks := .later }
def WhenSizeCardSaid : Prop := Claim7.holds Tryz.pinned (.plain (OpenSpec.ofChange whenSizeSpec)) whenSizeCard

/-- THE TIED CARD OF 'colporteurlaw1.OidAll'. -/
def oidAllCard : Claim7 := { stood := { row := oidAllRow, standIns := [], harness := (true, "a4e30e29621f4355d37897df8d0a4941520f33afbeaf7544e8480c5241e2f1fb"), looks := true }, kinds := [], alts := [], laidByText := true, laidKinds := [.data, .data, .data, .data, .data], laidTests := true, laidLooks := .later }
def OidAllCardSaid : Prop := Claim7.holds Tryz.pinned (.plain (OpenSpec.ofChange oidAllSpec)) oidAllCard

/-- THE TIED CARD OF 'colporteurlaw1.LineMany'. -/
def lineManyCard : Claim7 := { stood := { row := lineManyRow, standIns := [], harness := (true, "a4e30e29621f4355d37897df8d0a4941520f33afbeaf7544e8480c5241e2f1fb"), looks := true }, kinds := [], alts := [], laidByText := true, laidKinds := [.data, .data, .data, .data, .data], laidTests := true, laidLooks := .later }
def LineManyCardSaid : Prop := Claim7.holds Tryz.pinned (.plain (OpenSpec.ofChange lineManySpec)) lineManyCard

/-- THE TIED CARD OF 'colporteurlaw1.OidSort'. -/
def oidSortCard : Claim7 := { stood := { row := oidSortRow, standIns := [], harness := (true, "a4e30e29621f4355d37897df8d0a4941520f33afbeaf7544e8480c5241e2f1fb"), looks := true }, kinds := [], alts := [], laidByText := true, laidKinds := [.data, .data, .data, .data, .data], laidTests := true, laidLooks := .later }
def OidSortCardSaid : Prop := Claim7.holds Tryz.pinned (.plain (OpenSpec.ofChange oidSortSpec)) oidSortCard

/-- THE TIED CARD OF 'colporteurlaw1.OidHex'. -/
def oidHexCard : Claim7 := { stood := { row := oidHexRow, standIns := [], harness := (true, "a4e30e29621f4355d37897df8d0a4941520f33afbeaf7544e8480c5241e2f1fb"), looks := true }, kinds := [], alts := [], laidByText := true, laidKinds := [.data, .data, .data, .data, .data], laidTests := true, laidLooks := .later }
def OidHexCardSaid : Prop := Claim7.holds Tryz.pinned (.plain (OpenSpec.ofChange oidHexSpec)) oidHexCard

/-- THE TIED CARD OF 'colporteurlaw1.LineDigits'. -/
def lineDigitsCard : Claim7 := { stood := { row := lineDigitsRow, standIns := [], harness := (true, "a4e30e29621f4355d37897df8d0a4941520f33afbeaf7544e8480c5241e2f1fb"), looks := true }, kinds := [], alts := [], laidByText := true, laidKinds := [.data, .data, .data, .data, .data], laidTests := true, laidLooks := .later }
def LineDigitsCardSaid : Prop := Claim7.holds Tryz.pinned (.plain (OpenSpec.ofChange lineDigitsSpec)) lineDigitsCard

/-- THE SECOND FORM's CARD OF 'colporteurlaw1.ShaAll'. -/
def shaAllUptoCard : Claim7 := { stood := { row := shaAllUptoRow, standIns := [], harness := (true, "a4e30e29621f4355d37897df8d0a4941520f33afbeaf7544e8480c5241e2f1fb"), looks := true }, kinds := [], alts := [], laidByText := true, laidKinds := [.data, .data, .data, .data, .data], laidTests := true, laidLooks := .later }
def ShaAllUptoCardSaid : Prop := Claim7.holds Tryz.pinned (.plain (OpenSpec.upto shaAllSpec)) shaAllUptoCard

/-- THE SECOND FORM's CARD OF 'colporteurlaw1.ShaLong'. -/
def shaLongUptoCard : Claim7 := { stood := { row := shaLongUptoRow, standIns := [], harness := (true, "a4e30e29621f4355d37897df8d0a4941520f33afbeaf7544e8480c5241e2f1fb"), looks := true }, kinds := [], alts := [], laidByText := true, laidKinds := [.data, .data, .data, .data, .data], laidTests := true, laidLooks := .later }
def ShaLongUptoCardSaid : Prop := Claim7.holds Tryz.pinned (.plain (OpenSpec.upto shaLongSpec)) shaLongUptoCard

/-- THE SECOND FORM's CARD OF 'colporteurlaw1.WhenSize'. -/
def whenSizeUptoCard : Claim7 := { stood := { row := whenSizeUptoRow, standIns := [], harness := (true, "a4e30e29621f4355d37897df8d0a4941520f33afbeaf7544e8480c5241e2f1fb"), looks := true }, kinds := [], alts := [], laidByText := true, laidKinds := [.data, .data, .data, .data, .data], laidTests := true, laidLooks := .later }
def WhenSizeUptoCardSaid : Prop := Claim7.holds Tryz.pinned (.plain (OpenSpec.upto whenSizeSpec)) whenSizeUptoCard

/-- THE SECOND FORM's CARD OF 'colporteurlaw1.OidAll'. -/
def oidAllUptoCard : Claim7 := { stood := { row := oidAllUptoRow, standIns := [], harness := (true, "a4e30e29621f4355d37897df8d0a4941520f33afbeaf7544e8480c5241e2f1fb"), looks := true }, kinds := [], alts := [], laidByText := true, laidKinds := [.data, .data, .data, .data, .data], laidTests := true, laidLooks := .later }
def OidAllUptoCardSaid : Prop := Claim7.holds Tryz.pinned (.plain (OpenSpec.upto oidAllSpec)) oidAllUptoCard

/-- THE SECOND FORM's CARD OF 'colporteurlaw1.LineMany'. -/
def lineManyUptoCard : Claim7 := { stood := { row := lineManyUptoRow, standIns := [], harness := (true, "a4e30e29621f4355d37897df8d0a4941520f33afbeaf7544e8480c5241e2f1fb"), looks := true }, kinds := [], alts := [], laidByText := true, laidKinds := [.data, .data, .data, .data, .data], laidTests := true, laidLooks := .later }
def LineManyUptoCardSaid : Prop := Claim7.holds Tryz.pinned (.plain (OpenSpec.upto lineManySpec)) lineManyUptoCard

/-- THE SECOND FORM's CARD OF 'colporteurlaw1.OidSort'. -/
def oidSortUptoCard : Claim7 := { stood := { row := oidSortUptoRow, standIns := [], harness := (true, "a4e30e29621f4355d37897df8d0a4941520f33afbeaf7544e8480c5241e2f1fb"), looks := true }, kinds := [], alts := [], laidByText := true, laidKinds := [.data, .data, .data, .data, .data], laidTests := true, laidLooks := .later }
def OidSortUptoCardSaid : Prop := Claim7.holds Tryz.pinned (.plain (OpenSpec.upto oidSortSpec)) oidSortUptoCard

/-- THE SECOND FORM's CARD OF 'colporteurlaw1.OidHex'. -/
def oidHexUptoCard : Claim7 := { stood := { row := oidHexUptoRow, standIns := [], harness := (true, "a4e30e29621f4355d37897df8d0a4941520f33afbeaf7544e8480c5241e2f1fb"), looks := true }, kinds := [], alts := [], laidByText := true, laidKinds := [.data, .data, .data, .data, .data], laidTests := true, laidLooks := .later }
def OidHexUptoCardSaid : Prop := Claim7.holds Tryz.pinned (.plain (OpenSpec.upto oidHexSpec)) oidHexUptoCard

/-- THE SECOND FORM's CARD OF 'colporteurlaw1.LineDigits'. -/
def lineDigitsUptoCard : Claim7 := { stood := { row := lineDigitsUptoRow, standIns := [], harness := (true, "a4e30e29621f4355d37897df8d0a4941520f33afbeaf7544e8480c5241e2f1fb"), looks := true }, kinds := [], alts := [], laidByText := true, laidKinds := [.data, .data, .data, .data, .data], laidTests := true, laidLooks := .later }
def LineDigitsUptoCardSaid : Prop := Claim7.holds Tryz.pinned (.plain (OpenSpec.upto lineDigitsSpec)) lineDigitsUptoCard
end Rows
end Go.Proofs.YtghpnjgglneecaaGreatDoor
