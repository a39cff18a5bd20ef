/-
  DERIVED. GIVEN WITH THE SEED: THE CARDS: each row of YtdjhkaofhdcalaaGreatDoorRows.lean that lists a variable, with what it lists TIED to the program's text (the seventh form; the later family's looks); each row that meets fmt, with fmt's text TOLD by the authors' own Lean function (tested against real Go, not proved from fmt's source: count such statements apart). THE CARD IS WHAT COUNTS. Prove the row's statement (the work); the ties are given (YtdjhkaofhdcalaaGreatDoorTie.lean); close each card by the builder's one call (the guide's Derived/Test/ToyasCard.lean, 'card_holds'). Laid BY PROGRAM, IN A SANDBOX (cutbox-door.mjs). By AI agents, Wed Nov 11 2026. No macro, syntax, notation, axiom, sorry.
-/
import Derived.Test.YtdjhkaofhdcalaaGreatDoorRows
import GoSem.ClaimSeven
namespace Go.Proofs.YtdjhkaofhdcalaaGreatDoor
namespace Rows

/-- THE TIED CARD OF 'colporteurlaw1.OidAll'. -/
def oidAllCard : Claim7 := { stood := { row := oidAllRow, standIns := [], harness := (true, "74a0d116d11783f6c442c91d900a45bcbb131a7b24b620e2a7835cfd09f2dec3"), looks := true }, kinds := [], alts := [], laidByText := true, laidKinds := [.data, .data, .data, .data, .data], laidTests := true, laidLooks := .later }
def OidAllCardSaid : Prop := Claim7.holds Tryz.pinned (.plain (OpenSpec.ofChange oidAllSpec)) oidAllCard

/-- THE TIED CARD OF 'colporteurlaw1.OidSort'. -/
def oidSortCard : Claim7 := { stood := { row := oidSortRow, standIns := [], harness := (true, "74a0d116d11783f6c442c91d900a45bcbb131a7b24b620e2a7835cfd09f2dec3"), looks := true }, kinds := [], alts := [], laidByText := true, laidKinds := [.data, .data, .data, .data, .data], laidTests := true, laidLooks := .later }
def OidSortCardSaid : Prop := Claim7.holds Tryz.pinned (.plain (OpenSpec.ofChange oidSortSpec)) oidSortCard

/-- THE SECOND FORM's CARD OF 'colporteurlaw1.OidAll'. -/
def oidAllUptoCard : Claim7 := { stood := { row := oidAllUptoRow, standIns := [], harness := (true, "74a0d116d11783f6c442c91d900a45bcbb131a7b24b620e2a7835cfd09f2dec3"), looks := true }, kinds := [], alts := [], laidByText := true, laidKinds := [.data, .data, .data, .data, .data], laidTests := true, laidLooks := .later }
def OidAllUptoCardSaid : Prop := Claim7.holds Tryz.pinned (.plain (OpenSpec.upto oidAllSpec)) oidAllUptoCard

/-- THE SECOND FORM's CARD OF 'colporteurlaw1.OidSort'. -/
def oidSortUptoCard : Claim7 := { stood := { row := oidSortUptoRow, standIns := [], harness := (true, "74a0d116d11783f6c442c91d900a45bcbb131a7b24b620e2a7835cfd09f2dec3"), looks := true }, kinds := [], alts := [], laidByText := true, laidKinds := [.data, .data, .data, .data, .data], laidTests := true, laidLooks := .later }
def OidSortUptoCardSaid : Prop := Claim7.holds Tryz.pinned (.plain (OpenSpec.upto oidSortSpec)) oidSortUptoCard
end Rows
end Go.Proofs.YtdjhkaofhdcalaaGreatDoor
