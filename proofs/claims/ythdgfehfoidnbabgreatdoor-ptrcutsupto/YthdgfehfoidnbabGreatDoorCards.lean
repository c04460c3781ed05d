/-
  DERIVED. GIVEN WITH THE SEED: THE CARDS: each row of YthdgfehfoidnbabGreatDoorRows.lean that lists a variable, with what it lists TIED to the program's text (the seventh form; the later family's looks); each row that meets fmt, with fmt's text TOLD by the authors' own Lean function (tested against real Go, not proved from fmt's source: count such statements apart). THE CARD IS WHAT COUNTS. Prove the row's statement (the work); the ties are given (YthdgfehfoidnbabGreatDoorTie.lean); close each card by the builder's one call (the guide's Derived/Test/ToyasCard.lean, 'card_holds'). Laid BY PROGRAM, IN A SANDBOX (cutbox-door.mjs). By AI agents, Wed Nov 11 2026. No macro, syntax, notation, axiom, sorry.
-/
import Derived.Test.YthdgfehfoidnbabGreatDoorRows
import GoSem.ClaimSeven
namespace Go.Proofs.YthdgfehfoidnbabGreatDoor
namespace Rows

/-- THE TIED CARD OF 'seneschalkeep.PtrSame'. -/
def ptrSameCard : Claim7 := { stood := { row := ptrSameRow, standIns := [], harness := (true, "37ba0eb39ad4fbeb4c26f69a19997966ff3172c3c7e80251f45e343a9e4eb5f3"), looks := true }, kinds := [], alts := [], laidByText := true, laidKinds := [.data, .data, .data, .data, .sentinel, .sentinel, .pinned], laidTests := true, laidLooks := .later }
def PtrSameCardSaid : Prop := Claim7.holds Tryz.pinned (.plain (OpenSpec.ofChange ptrSameSpec)) ptrSameCard

/-- THE TIED CARD OF 'seneschalkeep.PtrApart'. -/
def ptrApartCard : Claim7 := { stood := { row := ptrApartRow, standIns := [], harness := (true, "37ba0eb39ad4fbeb4c26f69a19997966ff3172c3c7e80251f45e343a9e4eb5f3"), looks := true }, kinds := [], alts := [], laidByText := true, laidKinds := [.data, .data, .data, .data, .sentinel, .sentinel, .pinned], laidTests := true, laidLooks := .later }
def PtrApartCardSaid : Prop := Claim7.holds Tryz.pinned (.plain (OpenSpec.ofChange ptrApartSpec)) ptrApartCard

/-- THE TIED CARD OF 'seneschalkeep.PtrCuts'. -/
def ptrCutsCard : Claim7 := { stood := { row := ptrCutsRow, standIns := [], harness := (true, "37ba0eb39ad4fbeb4c26f69a19997966ff3172c3c7e80251f45e343a9e4eb5f3"), looks := true }, kinds := [], alts := [], laidByText := true, laidKinds := [.data, .data, .data, .data, .sentinel, .sentinel, .pinned], laidTests := true, laidLooks := .later }
def PtrCutsCardSaid : Prop := Claim7.holds Tryz.pinned (.plain (OpenSpec.ofChange ptrCutsSpec)) ptrCutsCard

/-- THE SECOND FORM's CARD OF 'seneschalkeep.PtrSame'. -/
def ptrSameUptoCard : Claim7 := { stood := { row := ptrSameUptoRow, standIns := [], harness := (true, "37ba0eb39ad4fbeb4c26f69a19997966ff3172c3c7e80251f45e343a9e4eb5f3"), looks := true }, kinds := [], alts := [], laidByText := true, laidKinds := [.data, .data, .data, .data, .sentinel, .sentinel, .pinned], laidTests := true, laidLooks := .later }
def PtrSameUptoCardSaid : Prop := Claim7.holds Tryz.pinned (.plain (OpenSpec.upto ptrSameSpec)) ptrSameUptoCard

/-- THE SECOND FORM's CARD OF 'seneschalkeep.PtrApart'. -/
def ptrApartUptoCard : Claim7 := { stood := { row := ptrApartUptoRow, standIns := [], harness := (true, "37ba0eb39ad4fbeb4c26f69a19997966ff3172c3c7e80251f45e343a9e4eb5f3"), looks := true }, kinds := [], alts := [], laidByText := true, laidKinds := [.data, .data, .data, .data, .sentinel, .sentinel, .pinned], laidTests := true, laidLooks := .later }
def PtrApartUptoCardSaid : Prop := Claim7.holds Tryz.pinned (.plain (OpenSpec.upto ptrApartSpec)) ptrApartUptoCard

/-- THE SECOND FORM's CARD OF 'seneschalkeep.PtrCuts'. -/
def ptrCutsUptoCard : Claim7 := { stood := { row := ptrCutsUptoRow, standIns := [], harness := (true, "37ba0eb39ad4fbeb4c26f69a19997966ff3172c3c7e80251f45e343a9e4eb5f3"), looks := true }, kinds := [], alts := [], laidByText := true, laidKinds := [.data, .data, .data, .data, .sentinel, .sentinel, .pinned], laidTests := true, laidLooks := .later }
def PtrCutsUptoCardSaid : Prop := Claim7.holds Tryz.pinned (.plain (OpenSpec.upto ptrCutsSpec)) ptrCutsUptoCard
end Rows
end Go.Proofs.YthdgfehfoidnbabGreatDoor
