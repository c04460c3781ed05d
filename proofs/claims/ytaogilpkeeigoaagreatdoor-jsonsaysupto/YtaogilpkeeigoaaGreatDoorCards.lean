/-
  DERIVED. GIVEN WITH THE SEED: THE CARDS: each row of YtaogilpkeeigoaaGreatDoorRows.lean that lists a variable, with what it lists TIED to the program's text (the seventh form; the later family's looks); each row that meets fmt, with fmt's text TOLD by the authors' own Lean function (tested against real Go, not proved from fmt's source: count such statements apart). THE CARD IS WHAT COUNTS. Prove the row's statement (the work); the ties are given (YtaogilpkeeigoaaGreatDoorTie.lean); close each card by the builder's one call (the guide's Derived/Test/ToyasCard.lean, 'card_holds'). Laid BY PROGRAM, IN A SANDBOX (cutbox-door.mjs). By AI agents, Wed Nov 11 2026. No macro, syntax, notation, axiom, sorry.
-/
import Derived.Test.YtaogilpkeeigoaaGreatDoorRows
import GoSem.ClaimSeven
namespace Go.Proofs.YtaogilpkeeigoaaGreatDoor
namespace Rows

/-- THE TIED CARD OF 'seneschallaw.JsonSays'. -/
def jsonSaysCard : Claim7 := { stood := { row := jsonSaysRow, standIns := [], harness := (true, "2890f6154e88693ebc18307e1601840f1ec35ce65895a59c36fa61f0ec5f9457"), looks := true }, kinds := [], alts := [], laidByText := true, laidKinds := [.data, .data, .data, .data, .sentinel, .sentinel, .pinned], laidTests := true, laidLooks := .later }
def JsonSaysCardSaid : Prop := Claim7.holds Tryz.pinned (.plain (OpenSpec.ofChange jsonSaysSpec)) jsonSaysCard

/-- THE TIED CARD OF 'seneschalkeep.PtrSame'. -/
def ptrSameCard : Claim7 := { stood := { row := ptrSameRow, standIns := [], harness := (true, "2890f6154e88693ebc18307e1601840f1ec35ce65895a59c36fa61f0ec5f9457"), looks := true }, kinds := [], alts := [], laidByText := true, laidKinds := [.data, .data, .data, .data, .sentinel, .sentinel, .pinned], laidTests := true, laidLooks := .later }
def PtrSameCardSaid : Prop := Claim7.holds Tryz.pinned (.plain (OpenSpec.ofChange ptrSameSpec)) ptrSameCard

/-- THE TIED CARD OF 'seneschalkeep.PtrApart'. -/
def ptrApartCard : Claim7 := { stood := { row := ptrApartRow, standIns := [], harness := (true, "2890f6154e88693ebc18307e1601840f1ec35ce65895a59c36fa61f0ec5f9457"), looks := true }, kinds := [], alts := [], laidByText := true, laidKinds := [.data, .data, .data, .data, .sentinel, .sentinel, .pinned], laidTests := true, laidLooks := .later }
def PtrApartCardSaid : Prop := Claim7.holds Tryz.pinned (.plain (OpenSpec.ofChange ptrApartSpec)) ptrApartCard

/-- THE SECOND FORM's CARD OF 'seneschallaw.JsonSays'. -/
def jsonSaysUptoCard : Claim7 := { stood := { row := jsonSaysUptoRow, standIns := [], harness := (true, "2890f6154e88693ebc18307e1601840f1ec35ce65895a59c36fa61f0ec5f9457"), looks := true }, kinds := [], alts := [], laidByText := true, laidKinds := [.data, .data, .data, .data, .sentinel, .sentinel, .pinned], laidTests := true, laidLooks := .later }
def JsonSaysUptoCardSaid : Prop := Claim7.holds Tryz.pinned (.plain (OpenSpec.upto jsonSaysSpec)) jsonSaysUptoCard

/-- THE SECOND FORM's CARD OF 'seneschalkeep.PtrSame'. -/
def ptrSameUptoCard : Claim7 := { stood := { row := ptrSameUptoRow, standIns := [], harness := (true, "2890f6154e88693ebc18307e1601840f1ec35ce65895a59c36fa61f0ec5f9457"), looks := true }, kinds := [], alts := [], laidByText := true, laidKinds := [.data, .data, .data, .data, .sentinel, .sentinel, .pinned], laidTests := true, laidLooks := .later }
def PtrSameUptoCardSaid : Prop := Claim7.holds Tryz.pinned (.plain (OpenSpec.upto ptrSameSpec)) ptrSameUptoCard

/-- THE SECOND FORM's CARD OF 'seneschalkeep.PtrApart'. -/
def ptrApartUptoCard : Claim7 := { stood := { row := ptrApartUptoRow, standIns := [], harness := (true, "2890f6154e88693ebc18307e1601840f1ec35ce65895a59c36fa61f0ec5f9457"), looks := true }, kinds := [], alts := [], laidByText := true, laidKinds := [.data, .data, .data, .data, .sentinel, .sentinel, .pinned], laidTests := true, laidLooks := .later }
def PtrApartUptoCardSaid : Prop := Claim7.holds Tryz.pinned (.plain (OpenSpec.upto ptrApartSpec)) ptrApartUptoCard
end Rows
end Go.Proofs.YtaogilpkeeigoaaGreatDoor
