/-
  DERIVED. GIVEN WITH THE SEED: THE CARDS: each row of YtdadnidfkomnbaaGreatDoorRows.lean that lists a variable, with what it lists TIED to the program's text (the seventh form; the later family's looks); each row that meets fmt, with fmt's text TOLD by the authors' own Lean function (tested against real Go, not proved from fmt's source: count such statements apart). THE CARD IS WHAT COUNTS. Prove the row's statement (the work); the ties are given (YtdadnidfkomnbaaGreatDoorTie.lean); close each card by the builder's one call (the guide's Derived/Test/ToyasCard.lean, 'card_holds'). Laid BY PROGRAM, IN A SANDBOX (cutbox-door.mjs). By AI agents, Wed Nov 11 2026. No macro, syntax, notation, axiom, sorry.
-/
import Derived.Test.YtdadnidfkomnbaaGreatDoorRows
import GoSem.ClaimSeven
namespace Go.Proofs.YtdadnidfkomnbaaGreatDoor
namespace Rows

/-- THE TIED CARD OF 'seneschallaw.JsonCanons'. -/
def jsonCanonsCard : Claim7 := { stood := { row := jsonCanonsRow, standIns := [], harness := (true, "434a8bbf00426e77689c58a68f7dc2f89f6355764cd188f3d55c119addc376ab"), looks := true }, kinds := [], alts := [], laidByText := true, laidKinds := [.data, .data, .data, .data, .sentinel, .sentinel, .pinned], laidTests := true, laidLooks := .later }
def JsonCanonsCardSaid : Prop := Claim7.holds Tryz.pinned (.plain (OpenSpec.ofChange jsonCanonsSpec)) jsonCanonsCard

/-- THE TIED CARD OF 'seneschallaw.JsonSays'. -/
def jsonSaysCard : Claim7 := { stood := { row := jsonSaysRow, standIns := [], harness := (true, "434a8bbf00426e77689c58a68f7dc2f89f6355764cd188f3d55c119addc376ab"), looks := true }, kinds := [], alts := [], laidByText := true, laidKinds := [.data, .data, .data, .data, .sentinel, .sentinel, .pinned], laidTests := true, laidLooks := .later }
def JsonSaysCardSaid : Prop := Claim7.holds Tryz.pinned (.plain (OpenSpec.ofChange jsonSaysSpec)) jsonSaysCard

/-- THE TIED CARD OF 'seneschallaw.PtrGoes'. -/
def ptrGoesCard : Claim7 := { stood := { row := ptrGoesRow, standIns := [], harness := (true, "434a8bbf00426e77689c58a68f7dc2f89f6355764cd188f3d55c119addc376ab"), looks := true }, kinds := [], alts := [], laidByText := true, laidKinds := [.data, .data, .data, .data, .sentinel, .sentinel, .pinned], laidTests := true, laidLooks := .later }
def PtrGoesCardSaid : Prop := Claim7.holds Tryz.pinned (.plain (OpenSpec.ofChange ptrGoesSpec)) ptrGoesCard

/-- THE TIED CARD OF 'seneschalkeep.PtrSame'. -/
def ptrSameCard : Claim7 := { stood := { row := ptrSameRow, standIns := [], harness := (true, "434a8bbf00426e77689c58a68f7dc2f89f6355764cd188f3d55c119addc376ab"), looks := true }, kinds := [], alts := [], laidByText := true, laidKinds := [.data, .data, .data, .data, .sentinel, .sentinel, .pinned], laidTests := true, laidLooks := .later }
def PtrSameCardSaid : Prop := Claim7.holds Tryz.pinned (.plain (OpenSpec.ofChange ptrSameSpec)) ptrSameCard

/-- THE TIED CARD OF 'seneschalkeep.PtrApart'. -/
def ptrApartCard : Claim7 := { stood := { row := ptrApartRow, standIns := [], harness := (true, "434a8bbf00426e77689c58a68f7dc2f89f6355764cd188f3d55c119addc376ab"), looks := true }, kinds := [], alts := [], laidByText := true, laidKinds := [.data, .data, .data, .data, .sentinel, .sentinel, .pinned], laidTests := true, laidLooks := .later }
def PtrApartCardSaid : Prop := Claim7.holds Tryz.pinned (.plain (OpenSpec.ofChange ptrApartSpec)) ptrApartCard

/-- THE TIED CARD OF 'seneschalkeep.PtrCuts'. -/
def ptrCutsCard : Claim7 := { stood := { row := ptrCutsRow, standIns := [], harness := (true, "434a8bbf00426e77689c58a68f7dc2f89f6355764cd188f3d55c119addc376ab"), looks := true }, kinds := [], alts := [], laidByText := true, laidKinds := [.data, .data, .data, .data, .sentinel, .sentinel, .pinned], laidTests := true, laidLooks := .later }
def PtrCutsCardSaid : Prop := Claim7.holds Tryz.pinned (.plain (OpenSpec.ofChange ptrCutsSpec)) ptrCutsCard

/-- THE SECOND FORM's CARD OF 'seneschallaw.JsonCanons'. -/
def jsonCanonsUptoCard : Claim7 := { stood := { row := jsonCanonsUptoRow, standIns := [], harness := (true, "434a8bbf00426e77689c58a68f7dc2f89f6355764cd188f3d55c119addc376ab"), looks := true }, kinds := [], alts := [], laidByText := true, laidKinds := [.data, .data, .data, .data, .sentinel, .sentinel, .pinned], laidTests := true, laidLooks := .later }
def JsonCanonsUptoCardSaid : Prop := Claim7.holds Tryz.pinned (.plain (OpenSpec.upto jsonCanonsSpec)) jsonCanonsUptoCard

/-- THE SECOND FORM's CARD OF 'seneschallaw.JsonSays'. -/
def jsonSaysUptoCard : Claim7 := { stood := { row := jsonSaysUptoRow, standIns := [], harness := (true, "434a8bbf00426e77689c58a68f7dc2f89f6355764cd188f3d55c119addc376ab"), looks := true }, kinds := [], alts := [], laidByText := true, laidKinds := [.data, .data, .data, .data, .sentinel, .sentinel, .pinned], laidTests := true, laidLooks := .later }
def JsonSaysUptoCardSaid : Prop := Claim7.holds Tryz.pinned (.plain (OpenSpec.upto jsonSaysSpec)) jsonSaysUptoCard

/-- THE SECOND FORM's CARD OF 'seneschallaw.PtrGoes'. -/
def ptrGoesUptoCard : Claim7 := { stood := { row := ptrGoesUptoRow, standIns := [], harness := (true, "434a8bbf00426e77689c58a68f7dc2f89f6355764cd188f3d55c119addc376ab"), looks := true }, kinds := [], alts := [], laidByText := true, laidKinds := [.data, .data, .data, .data, .sentinel, .sentinel, .pinned], laidTests := true, laidLooks := .later }
def PtrGoesUptoCardSaid : Prop := Claim7.holds Tryz.pinned (.plain (OpenSpec.upto ptrGoesSpec)) ptrGoesUptoCard

/-- THE SECOND FORM's CARD OF 'seneschalkeep.PtrSame'. -/
def ptrSameUptoCard : Claim7 := { stood := { row := ptrSameUptoRow, standIns := [], harness := (true, "434a8bbf00426e77689c58a68f7dc2f89f6355764cd188f3d55c119addc376ab"), looks := true }, kinds := [], alts := [], laidByText := true, laidKinds := [.data, .data, .data, .data, .sentinel, .sentinel, .pinned], laidTests := true, laidLooks := .later }
def PtrSameUptoCardSaid : Prop := Claim7.holds Tryz.pinned (.plain (OpenSpec.upto ptrSameSpec)) ptrSameUptoCard

/-- THE SECOND FORM's CARD OF 'seneschalkeep.PtrApart'. -/
def ptrApartUptoCard : Claim7 := { stood := { row := ptrApartUptoRow, standIns := [], harness := (true, "434a8bbf00426e77689c58a68f7dc2f89f6355764cd188f3d55c119addc376ab"), looks := true }, kinds := [], alts := [], laidByText := true, laidKinds := [.data, .data, .data, .data, .sentinel, .sentinel, .pinned], laidTests := true, laidLooks := .later }
def PtrApartUptoCardSaid : Prop := Claim7.holds Tryz.pinned (.plain (OpenSpec.upto ptrApartSpec)) ptrApartUptoCard

/-- THE SECOND FORM's CARD OF 'seneschalkeep.PtrCuts'. -/
def ptrCutsUptoCard : Claim7 := { stood := { row := ptrCutsUptoRow, standIns := [], harness := (true, "434a8bbf00426e77689c58a68f7dc2f89f6355764cd188f3d55c119addc376ab"), looks := true }, kinds := [], alts := [], laidByText := true, laidKinds := [.data, .data, .data, .data, .sentinel, .sentinel, .pinned], laidTests := true, laidLooks := .later }
def PtrCutsUptoCardSaid : Prop := Claim7.holds Tryz.pinned (.plain (OpenSpec.upto ptrCutsSpec)) ptrCutsUptoCard
end Rows
end Go.Proofs.YtdadnidfkomnbaaGreatDoor
