/-
  DERIVED. GIVEN WITH THE SEED: THE CARDS: each row of YteoihbfknkghbaaGreatDoorRows.lean that lists a variable, with what it lists TIED to the program's text (the seventh form; the later family's looks); each row that meets fmt, with fmt's text TOLD by the authors' own Lean function (tested against real Go, not proved from fmt's source: count such statements apart). THE CARD IS WHAT COUNTS. Prove the row's statement (the work); the ties are given (YteoihbfknkghbaaGreatDoorTie.lean); close each card by the builder's one call (the guide's Derived/Test/ToyasCard.lean, 'card_holds'). Laid BY PROGRAM, IN A SANDBOX (cutbox-door.mjs). By AI agents, Wed Nov 11 2026. No macro, syntax, notation, axiom, sorry.
-/
import Derived.Test.YteoihbfknkghbaaGreatDoorRows
import GoSem.ClaimSeven
namespace Go.Proofs.YteoihbfknkghbaaGreatDoor
namespace Rows

/-- THE TIED CARD OF 'seneschalkeep.PtrSame'. -/
def ptrSameCard : Claim7 := { stood := { row := ptrSameRow, standIns := [], harness := (true, "6a2c8af95cce8f5d742774cbda29c52f2c992643e0cec25bf1a5cfc565f0e757"), looks := true }, kinds := [], alts := [], laidByText := true, laidKinds := [.data, .data, .data, .data, .sentinel, .sentinel, .pinned], laidTests := true, laidLooks := .later }
def PtrSameCardSaid : Prop := Claim7.holds Tryz.pinned (.plain (OpenSpec.ofChange ptrSameSpec)) ptrSameCard

/-- THE TIED CARD OF 'seneschalkeep.PtrApart'. -/
def ptrApartCard : Claim7 := { stood := { row := ptrApartRow, standIns := [], harness := (true, "6a2c8af95cce8f5d742774cbda29c52f2c992643e0cec25bf1a5cfc565f0e757"), looks := true }, kinds := [], alts := [], laidByText := true, laidKinds := [.data, .data, .data, .data, .sentinel, .sentinel, .pinned], laidTests := true, laidLooks := .later }
def PtrApartCardSaid : Prop := Claim7.holds Tryz.pinned (.plain (OpenSpec.ofChange ptrApartSpec)) ptrApartCard

/-- THE TIED CARD OF 'seneschalkeep.PtrCuts'. -/
def ptrCutsCard : Claim7 := { stood := { row := ptrCutsRow, standIns := [], harness := (true, "6a2c8af95cce8f5d742774cbda29c52f2c992643e0cec25bf1a5cfc565f0e757"), looks := true }, kinds := [], alts := [], laidByText := true, laidKinds := [.data, .data, .data, .data, .sentinel, .sentinel, .pinned], laidTests := true, laidLooks := .later }
def PtrCutsCardSaid : Prop := Claim7.holds Tryz.pinned (.plain (OpenSpec.ofChange ptrCutsSpec)) ptrCutsCard

/-- THE TIED CARD OF 'seneschallaw.PatchSays'. -/
def patchSaysCard : Claim7 := { stood := { row := patchSaysRow, standIns := [], harness := (true, "6a2c8af95cce8f5d742774cbda29c52f2c992643e0cec25bf1a5cfc565f0e757"), looks := true }, kinds := [], alts := [], laidByText := true, laidKinds := [.data, .data, .data, .data, .sentinel, .sentinel, .pinned], laidTests := true, laidLooks := .later }
def PatchSaysCardSaid : Prop := Claim7.holds Tryz.pinned (.plain (OpenSpec.ofChange patchSaysSpec)) patchSaysCard

/-- THE TIED CARD OF 'seneschalkeep.PatchTests'. -/
def patchTestsCard : Claim7 := { stood := { row := patchTestsRow, standIns := [], harness := (true, "6a2c8af95cce8f5d742774cbda29c52f2c992643e0cec25bf1a5cfc565f0e757"), looks := true }, kinds := [], alts := [], laidByText := true, laidKinds := [.data, .data, .data, .data, .sentinel, .sentinel, .pinned], laidTests := true, laidLooks := .later }
def PatchTestsCardSaid : Prop := Claim7.holds Tryz.pinned (.plain (OpenSpec.ofChange patchTestsSpec)) patchTestsCard

/-- THE TIED CARD OF 'seneschalkeep.OwnWays'. -/
def ownWaysCard : Claim7 := { stood := { row := ownWaysRow, standIns := [], harness := (true, "6a2c8af95cce8f5d742774cbda29c52f2c992643e0cec25bf1a5cfc565f0e757"), looks := true }, kinds := [], alts := [], laidByText := true, laidKinds := [.data, .data, .data, .data, .sentinel, .sentinel, .pinned], laidTests := true, laidLooks := .later }
def OwnWaysCardSaid : Prop := Claim7.holds Tryz.pinned (.plain (OpenSpec.ofChange ownWaysSpec)) ownWaysCard

/-- THE SECOND FORM's CARD OF 'seneschalkeep.PtrSame'. -/
def ptrSameUptoCard : Claim7 := { stood := { row := ptrSameUptoRow, standIns := [], harness := (true, "6a2c8af95cce8f5d742774cbda29c52f2c992643e0cec25bf1a5cfc565f0e757"), looks := true }, kinds := [], alts := [], laidByText := true, laidKinds := [.data, .data, .data, .data, .sentinel, .sentinel, .pinned], laidTests := true, laidLooks := .later }
def PtrSameUptoCardSaid : Prop := Claim7.holds Tryz.pinned (.plain (OpenSpec.upto ptrSameSpec)) ptrSameUptoCard

/-- THE SECOND FORM's CARD OF 'seneschalkeep.PtrApart'. -/
def ptrApartUptoCard : Claim7 := { stood := { row := ptrApartUptoRow, standIns := [], harness := (true, "6a2c8af95cce8f5d742774cbda29c52f2c992643e0cec25bf1a5cfc565f0e757"), looks := true }, kinds := [], alts := [], laidByText := true, laidKinds := [.data, .data, .data, .data, .sentinel, .sentinel, .pinned], laidTests := true, laidLooks := .later }
def PtrApartUptoCardSaid : Prop := Claim7.holds Tryz.pinned (.plain (OpenSpec.upto ptrApartSpec)) ptrApartUptoCard

/-- THE SECOND FORM's CARD OF 'seneschalkeep.PtrCuts'. -/
def ptrCutsUptoCard : Claim7 := { stood := { row := ptrCutsUptoRow, standIns := [], harness := (true, "6a2c8af95cce8f5d742774cbda29c52f2c992643e0cec25bf1a5cfc565f0e757"), looks := true }, kinds := [], alts := [], laidByText := true, laidKinds := [.data, .data, .data, .data, .sentinel, .sentinel, .pinned], laidTests := true, laidLooks := .later }
def PtrCutsUptoCardSaid : Prop := Claim7.holds Tryz.pinned (.plain (OpenSpec.upto ptrCutsSpec)) ptrCutsUptoCard

/-- THE SECOND FORM's CARD OF 'seneschallaw.PatchSays'. -/
def patchSaysUptoCard : Claim7 := { stood := { row := patchSaysUptoRow, standIns := [], harness := (true, "6a2c8af95cce8f5d742774cbda29c52f2c992643e0cec25bf1a5cfc565f0e757"), looks := true }, kinds := [], alts := [], laidByText := true, laidKinds := [.data, .data, .data, .data, .sentinel, .sentinel, .pinned], laidTests := true, laidLooks := .later }
def PatchSaysUptoCardSaid : Prop := Claim7.holds Tryz.pinned (.plain (OpenSpec.upto patchSaysSpec)) patchSaysUptoCard

/-- THE SECOND FORM's CARD OF 'seneschalkeep.PatchTests'. -/
def patchTestsUptoCard : Claim7 := { stood := { row := patchTestsUptoRow, standIns := [], harness := (true, "6a2c8af95cce8f5d742774cbda29c52f2c992643e0cec25bf1a5cfc565f0e757"), looks := true }, kinds := [], alts := [], laidByText := true, laidKinds := [.data, .data, .data, .data, .sentinel, .sentinel, .pinned], laidTests := true, laidLooks := .later }
def PatchTestsUptoCardSaid : Prop := Claim7.holds Tryz.pinned (.plain (OpenSpec.upto patchTestsSpec)) patchTestsUptoCard

/-- THE SECOND FORM's CARD OF 'seneschalkeep.OwnWays'. -/
def ownWaysUptoCard : Claim7 := { stood := { row := ownWaysUptoRow, standIns := [], harness := (true, "6a2c8af95cce8f5d742774cbda29c52f2c992643e0cec25bf1a5cfc565f0e757"), looks := true }, kinds := [], alts := [], laidByText := true, laidKinds := [.data, .data, .data, .data, .sentinel, .sentinel, .pinned], laidTests := true, laidLooks := .later }
def OwnWaysUptoCardSaid : Prop := Claim7.holds Tryz.pinned (.plain (OpenSpec.upto ownWaysSpec)) ownWaysUptoCard
end Rows
end Go.Proofs.YteoihbfknkghbaaGreatDoor
