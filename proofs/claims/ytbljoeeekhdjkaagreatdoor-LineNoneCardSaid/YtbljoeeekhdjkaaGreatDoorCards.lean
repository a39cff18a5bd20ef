/-
  DERIVED. GIVEN WITH THE SEED: THE CARDS: each row of YtbljoeeekhdjkaaGreatDoorRows.lean that lists a variable, with what it lists TIED to the program's text (the seventh form; the later family's looks); each row that meets fmt, with fmt's text TOLD by the authors' own Lean function (tested against real Go, not proved from fmt's source: count such statements apart). THE CARD IS WHAT COUNTS. Prove the row's statement (the work); the ties are given (YtbljoeeekhdjkaaGreatDoorTie.lean); close each card by the builder's one call (the guide's Derived/Test/ToyasCard.lean, 'card_holds'). Laid BY PROGRAM, IN A SANDBOX (cutbox-door.mjs). By AI agents, Wed Nov 11 2026. No macro, syntax, notation, axiom, sorry.
-/
import Derived.Test.YtbljoeeekhdjkaaGreatDoorRows
import GoSem.ClaimSeven
namespace Go.Proofs.YtbljoeeekhdjkaaGreatDoor
namespace Rows

/-- THE TIED CARD OF 'colporteurlaw1.ShaAll'. -/
def shaAllCard : Claim7 := { stood := { row := shaAllRow, standIns := [], harness := (true, "7a99a123eb95fbea26619245eb7b10732a2fd2303783c39195036eeb86da2f66"), looks := true }, kinds := [], alts := [], laidByText := true, laidKinds := [.data, .data, .data, .data, .data], laidTests := true, laidLooks := .later }
def ShaAllCardSaid : Prop := Claim7.holds Tryz.pinned (.plain (OpenSpec.ofChange shaAllSpec)) shaAllCard

/-- THE TIED CARD OF 'colporteurlaw1.ShaLong'. -/
def shaLongCard : Claim7 := { stood := { row := shaLongRow, standIns := [], harness := (true, "7a99a123eb95fbea26619245eb7b10732a2fd2303783c39195036eeb86da2f66"), looks := true }, kinds := [], alts := [], laidByText := true, laidKinds := [.data, .data, .data, .data, .data], laidTests := true, laidLooks := .later }
def ShaLongCardSaid : Prop := Claim7.holds Tryz.pinned (.plain (OpenSpec.ofChange shaLongSpec)) shaLongCard

/-- THE TIED CARD OF 'colporteurlaw1.GuardDo'. -/
def guardDoCard : Claim7 := { stood := { row := guardDoRow, standIns := [], harness := (true, "7a99a123eb95fbea26619245eb7b10732a2fd2303783c39195036eeb86da2f66"), looks := true }, kinds := [], alts := [], laidByText := true, laidKinds := [.data, .data, .data, .data, .data], laidTests := true, laidLooks := .later }
def GuardDoCardSaid : Prop := Claim7.holds Tryz.pinned (.plain (OpenSpec.ofChange guardDoSpec)) guardDoCard

/-- THE TIED CARD OF 'colporteurlaw1.GuardRead'. -/
def guardReadCard : Claim7 := { stood := { row := guardReadRow, standIns := [], harness := (true, "7a99a123eb95fbea26619245eb7b10732a2fd2303783c39195036eeb86da2f66"), looks := true }, kinds := [], alts := [], laidByText := true, laidKinds := [.data, .data, .data, .data, .data], laidTests := true, laidLooks := .later }
def GuardReadCardSaid : Prop := Claim7.holds Tryz.pinned (.plain (OpenSpec.ofChange guardReadSpec)) guardReadCard

/-- THE TIED CARD OF 'colporteurlaw1.WhenAll'. -/
def whenAllCard : Claim7 := { stood := { row := whenAllRow, standIns := [], harness := (true, "7a99a123eb95fbea26619245eb7b10732a2fd2303783c39195036eeb86da2f66"), looks := true }, kinds := [], alts := [], laidByText := true, laidKinds := [.data, .data, .data, .data, .data], laidTests := true, laidLooks := .later }
def WhenAllCardSaid : Prop := Claim7.holds Tryz.pinned (.plain (OpenSpec.ofChange whenAllSpec)) whenAllCard

/-- THE TIED CARD OF 'colporteurlaw1.WhenOrder'. -/
def whenOrderCard : Claim7 := { stood := { row := whenOrderRow, standIns := [], harness := (true, "7a99a123eb95fbea26619245eb7b10732a2fd2303783c39195036eeb86da2f66"), looks := true }, kinds := [], alts := [], laidByText := true, laidKinds := [.data, .data, .data, .data, .data], laidTests := true, laidLooks := .later }
def WhenOrderCardSaid : Prop := Claim7.holds Tryz.pinned (.plain (OpenSpec.ofChange whenOrderSpec)) whenOrderCard

/-- THE TIED CARD OF 'colporteurlaw1.WhenSize'. -/
def whenSizeCard : Claim7 := { stood := { row := whenSizeRow, standIns := [], harness := (true, "7a99a123eb95fbea26619245eb7b10732a2fd2303783c39195036eeb86da2f66"), looks := true }, kinds := [], alts := [], laidByText := true, laidKinds := [.data, .data, .data, .data, .data], laidTests := true, laidLooks := .later }
def WhenSizeCardSaid : Prop := Claim7.holds Tryz.pinned (.plain (OpenSpec.ofChange whenSizeSpec)) whenSizeCard

/-- THE TIED CARD OF 'colporteurlaw1.OidAll'. -/
def oidAllCard : Claim7 := { stood := { row := oidAllRow, standIns := [], harness := (true, "7a99a123eb95fbea26619245eb7b10732a2fd2303783c39195036eeb86da2f66"), looks := true }, kinds := [], alts := [], laidByText := true, laidKinds := [.data, .data, .data, .data, .data], laidTests := true, laidLooks := .later }
def OidAllCardSaid : Prop := Claim7.holds Tryz.pinned (.plain (OpenSpec.ofChange oidAllSpec)) oidAllCard

/-- THE TIED CARD OF 'colporteurlaw1.LineMany'. -/
def lineManyCard : Claim7 := { stood := { row := lineManyRow, standIns := [], harness := (true, "7a99a123eb95fbea26619245eb7b10732a2fd2303783c39195036eeb86da2f66"), looks := true }, kinds := [], alts := [], laidByText := true, laidKinds := [.data, .data, .data, .data, .data], laidTests := true, laidLooks := .later }
def LineManyCardSaid : Prop := Claim7.holds Tryz.pinned (.plain (OpenSpec.ofChange lineManySpec)) lineManyCard

/-- THE TIED CARD OF 'colporteurlaw1.LineNone'. -/
def lineNoneCard : Claim7 := { stood := { row := lineNoneRow, standIns := [], harness := (true, "7a99a123eb95fbea26619245eb7b10732a2fd2303783c39195036eeb86da2f66"), looks := true }, kinds := [], alts := [], laidByText := true, laidKinds := [.data, .data, .data, .data, .data], laidTests := true, laidLooks := .later }
def LineNoneCardSaid : Prop := Claim7.holds Tryz.pinned (.plain (OpenSpec.ofChange lineNoneSpec)) lineNoneCard

/-- THE TIED CARD OF 'colporteurlaw1.ShaOwn'. -/
def shaOwnCard : Claim7 := { stood := { row := shaOwnRow, standIns := [], harness := (true, "7a99a123eb95fbea26619245eb7b10732a2fd2303783c39195036eeb86da2f66"), looks := true }, kinds := [], alts := [], laidByText := true, laidKinds := [.data, .data, .data, .data, .data], laidTests := true, laidLooks := .later }
def ShaOwnCardSaid : Prop := Claim7.holds Tryz.pinned (.plain (OpenSpec.ofChange shaOwnSpec)) shaOwnCard

/-- THE TIED CARD OF 'colporteurlaw1.GuardNest'. -/
def guardNestCard : Claim7 := { stood := { row := guardNestRow, standIns := [], harness := (true, "7a99a123eb95fbea26619245eb7b10732a2fd2303783c39195036eeb86da2f66"), looks := true }, kinds := [], alts := [], laidByText := true, laidKinds := [.data, .data, .data, .data, .data], laidTests := true, laidLooks := .later }
def GuardNestCardSaid : Prop := Claim7.holds Tryz.pinned (.plain (OpenSpec.ofChange guardNestSpec)) guardNestCard

/-- THE SECOND FORM's CARD OF 'colporteurlaw1.ShaAll'. -/
def shaAllUptoCard : Claim7 := { stood := { row := shaAllUptoRow, standIns := [], harness := (true, "7a99a123eb95fbea26619245eb7b10732a2fd2303783c39195036eeb86da2f66"), looks := true }, kinds := [], alts := [], laidByText := true, laidKinds := [.data, .data, .data, .data, .data], laidTests := true, laidLooks := .later }
def ShaAllUptoCardSaid : Prop := Claim7.holds Tryz.pinned (.plain (OpenSpec.upto shaAllSpec)) shaAllUptoCard

/-- THE SECOND FORM's CARD OF 'colporteurlaw1.ShaLong'. -/
def shaLongUptoCard : Claim7 := { stood := { row := shaLongUptoRow, standIns := [], harness := (true, "7a99a123eb95fbea26619245eb7b10732a2fd2303783c39195036eeb86da2f66"), looks := true }, kinds := [], alts := [], laidByText := true, laidKinds := [.data, .data, .data, .data, .data], laidTests := true, laidLooks := .later }
def ShaLongUptoCardSaid : Prop := Claim7.holds Tryz.pinned (.plain (OpenSpec.upto shaLongSpec)) shaLongUptoCard

/-- THE SECOND FORM's CARD OF 'colporteurlaw1.GuardDo'. -/
def guardDoUptoCard : Claim7 := { stood := { row := guardDoUptoRow, standIns := [], harness := (true, "7a99a123eb95fbea26619245eb7b10732a2fd2303783c39195036eeb86da2f66"), looks := true }, kinds := [], alts := [], laidByText := true, laidKinds := [.data, .data, .data, .data, .data], laidTests := true, laidLooks := .later }
def GuardDoUptoCardSaid : Prop := Claim7.holds Tryz.pinned (.plain (OpenSpec.upto guardDoSpec)) guardDoUptoCard

/-- THE SECOND FORM's CARD OF 'colporteurlaw1.GuardRead'. -/
def guardReadUptoCard : Claim7 := { stood := { row := guardReadUptoRow, standIns := [], harness := (true, "7a99a123eb95fbea26619245eb7b10732a2fd2303783c39195036eeb86da2f66"), looks := true }, kinds := [], alts := [], laidByText := true, laidKinds := [.data, .data, .data, .data, .data], laidTests := true, laidLooks := .later }
def GuardReadUptoCardSaid : Prop := Claim7.holds Tryz.pinned (.plain (OpenSpec.upto guardReadSpec)) guardReadUptoCard

/-- THE SECOND FORM's CARD OF 'colporteurlaw1.WhenAll'. -/
def whenAllUptoCard : Claim7 := { stood := { row := whenAllUptoRow, standIns := [], harness := (true, "7a99a123eb95fbea26619245eb7b10732a2fd2303783c39195036eeb86da2f66"), looks := true }, kinds := [], alts := [], laidByText := true, laidKinds := [.data, .data, .data, .data, .data], laidTests := true, laidLooks := .later }
def WhenAllUptoCardSaid : Prop := Claim7.holds Tryz.pinned (.plain (OpenSpec.upto whenAllSpec)) whenAllUptoCard

/-- THE SECOND FORM's CARD OF 'colporteurlaw1.WhenOrder'. -/
def whenOrderUptoCard : Claim7 := { stood := { row := whenOrderUptoRow, standIns := [], harness := (true, "7a99a123eb95fbea26619245eb7b10732a2fd2303783c39195036eeb86da2f66"), looks := true }, kinds := [], alts := [], laidByText := true, laidKinds := [.data, .data, .data, .data, .data], laidTests := true, laidLooks := .later }
def WhenOrderUptoCardSaid : Prop := Claim7.holds Tryz.pinned (.plain (OpenSpec.upto whenOrderSpec)) whenOrderUptoCard

/-- THE SECOND FORM's CARD OF 'colporteurlaw1.WhenSize'. -/
def whenSizeUptoCard : Claim7 := { stood := { row := whenSizeUptoRow, standIns := [], harness := (true, "7a99a123eb95fbea26619245eb7b10732a2fd2303783c39195036eeb86da2f66"), looks := true }, kinds := [], alts := [], laidByText := true, laidKinds := [.data, .data, .data, .data, .data], laidTests := true, laidLooks := .later }
def WhenSizeUptoCardSaid : Prop := Claim7.holds Tryz.pinned (.plain (OpenSpec.upto whenSizeSpec)) whenSizeUptoCard

/-- THE SECOND FORM's CARD OF 'colporteurlaw1.OidAll'. -/
def oidAllUptoCard : Claim7 := { stood := { row := oidAllUptoRow, standIns := [], harness := (true, "7a99a123eb95fbea26619245eb7b10732a2fd2303783c39195036eeb86da2f66"), looks := true }, kinds := [], alts := [], laidByText := true, laidKinds := [.data, .data, .data, .data, .data], laidTests := true, laidLooks := .later }
def OidAllUptoCardSaid : Prop := Claim7.holds Tryz.pinned (.plain (OpenSpec.upto oidAllSpec)) oidAllUptoCard

/-- THE SECOND FORM's CARD OF 'colporteurlaw1.LineMany'. -/
def lineManyUptoCard : Claim7 := { stood := { row := lineManyUptoRow, standIns := [], harness := (true, "7a99a123eb95fbea26619245eb7b10732a2fd2303783c39195036eeb86da2f66"), looks := true }, kinds := [], alts := [], laidByText := true, laidKinds := [.data, .data, .data, .data, .data], laidTests := true, laidLooks := .later }
def LineManyUptoCardSaid : Prop := Claim7.holds Tryz.pinned (.plain (OpenSpec.upto lineManySpec)) lineManyUptoCard

/-- THE SECOND FORM's CARD OF 'colporteurlaw1.LineNone'. -/
def lineNoneUptoCard : Claim7 := { stood := { row := lineNoneUptoRow, standIns := [], harness := (true, "7a99a123eb95fbea26619245eb7b10732a2fd2303783c39195036eeb86da2f66"), looks := true }, kinds := [], alts := [], laidByText := true, laidKinds := [.data, .data, .data, .data, .data], laidTests := true, laidLooks := .later }
def LineNoneUptoCardSaid : Prop := Claim7.holds Tryz.pinned (.plain (OpenSpec.upto lineNoneSpec)) lineNoneUptoCard

/-- THE SECOND FORM's CARD OF 'colporteurlaw1.ShaOwn'. -/
def shaOwnUptoCard : Claim7 := { stood := { row := shaOwnUptoRow, standIns := [], harness := (true, "7a99a123eb95fbea26619245eb7b10732a2fd2303783c39195036eeb86da2f66"), looks := true }, kinds := [], alts := [], laidByText := true, laidKinds := [.data, .data, .data, .data, .data], laidTests := true, laidLooks := .later }
def ShaOwnUptoCardSaid : Prop := Claim7.holds Tryz.pinned (.plain (OpenSpec.upto shaOwnSpec)) shaOwnUptoCard

/-- THE SECOND FORM's CARD OF 'colporteurlaw1.GuardNest'. -/
def guardNestUptoCard : Claim7 := { stood := { row := guardNestUptoRow, standIns := [], harness := (true, "7a99a123eb95fbea26619245eb7b10732a2fd2303783c39195036eeb86da2f66"), looks := true }, kinds := [], alts := [], laidByText := true, laidKinds := [.data, .data, .data, .data, .data], laidTests := true, laidLooks := .later }
def GuardNestUptoCardSaid : Prop := Claim7.holds Tryz.pinned (.plain (OpenSpec.upto guardNestSpec)) guardNestUptoCard
end Rows
end Go.Proofs.YtbljoeeekhdjkaaGreatDoor
