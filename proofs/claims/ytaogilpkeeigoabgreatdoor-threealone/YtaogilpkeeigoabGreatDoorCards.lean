/-
  DERIVED. GIVEN WITH THE SEED: THE CARDS: each row of YtaogilpkeeigoabGreatDoorRows.lean that lists a variable, with what it lists TIED to the program's text (the seventh form; the later family's looks); each row that meets fmt, with fmt's text TOLD by the authors' own Lean function (tested against real Go, not proved from fmt's source: count such statements apart). THE CARD IS WHAT COUNTS. Prove the row's statement (the work); the ties are given (YtaogilpkeeigoabGreatDoorTie.lean); close each card by the builder's one call (the guide's Derived/Test/ToyasCard.lean, 'card_holds'). Laid BY PROGRAM, IN A SANDBOX (cutbox-door.mjs). By AI agents, Wed Nov 11 2026. No macro, syntax, notation, axiom, sorry.
-/
import Derived.Test.YtaogilpkeeigoabGreatDoorRows
import GoSem.ClaimSeven
namespace Go.Proofs.YtaogilpkeeigoabGreatDoor
namespace Rows

/-- THE TIED CARD OF 'seneschalkeep.PtrCuts'. -/
def ptrCutsCard : Claim7 := { stood := { row := ptrCutsRow, standIns := [], harness := (true, "0e32329d060489c3332535786d5328ff69ddfde986b0d87bf517476637237e11"), looks := true }, kinds := [], alts := [], laidByText := true, laidKinds := [.data, .data, .data, .data, .sentinel, .sentinel, .pinned], laidTests := true, laidLooks := .later }
def PtrCutsCardSaid : Prop := Claim7.holds Tryz.pinned (.plain (OpenSpec.ofChange ptrCutsSpec)) ptrCutsCard

/-- THE TIED CARD OF 'seneschalkeep.ThreeAgain'. -/
def threeAgainCard : Claim7 := { stood := { row := threeAgainRow, standIns := [], harness := (true, "0e32329d060489c3332535786d5328ff69ddfde986b0d87bf517476637237e11"), looks := true }, kinds := [], alts := [], laidByText := true, laidKinds := [.data, .data, .data, .data, .sentinel, .sentinel, .pinned], laidTests := true, laidLooks := .later }
def ThreeAgainCardSaid : Prop := Claim7.holds Tryz.pinned (.plain (OpenSpec.ofChange threeAgainSpec)) threeAgainCard

/-- THE TIED CARD OF 'seneschalkeep.ThreeAlone'. -/
def threeAloneCard : Claim7 := { stood := { row := threeAloneRow, standIns := [], harness := (true, "0e32329d060489c3332535786d5328ff69ddfde986b0d87bf517476637237e11"), looks := true }, kinds := [], alts := [], laidByText := true, laidKinds := [.data, .data, .data, .data, .sentinel, .sentinel, .pinned], laidTests := true, laidLooks := .later }
def ThreeAloneCardSaid : Prop := Claim7.holds Tryz.pinned (.plain (OpenSpec.ofChange threeAloneSpec)) threeAloneCard

/-- THE SECOND FORM's CARD OF 'seneschalkeep.PtrCuts'. -/
def ptrCutsUptoCard : Claim7 := { stood := { row := ptrCutsUptoRow, standIns := [], harness := (true, "0e32329d060489c3332535786d5328ff69ddfde986b0d87bf517476637237e11"), looks := true }, kinds := [], alts := [], laidByText := true, laidKinds := [.data, .data, .data, .data, .sentinel, .sentinel, .pinned], laidTests := true, laidLooks := .later }
def PtrCutsUptoCardSaid : Prop := Claim7.holds Tryz.pinned (.plain (OpenSpec.upto ptrCutsSpec)) ptrCutsUptoCard

/-- THE SECOND FORM's CARD OF 'seneschalkeep.ThreeAgain'. -/
def threeAgainUptoCard : Claim7 := { stood := { row := threeAgainUptoRow, standIns := [], harness := (true, "0e32329d060489c3332535786d5328ff69ddfde986b0d87bf517476637237e11"), looks := true }, kinds := [], alts := [], laidByText := true, laidKinds := [.data, .data, .data, .data, .sentinel, .sentinel, .pinned], laidTests := true, laidLooks := .later }
def ThreeAgainUptoCardSaid : Prop := Claim7.holds Tryz.pinned (.plain (OpenSpec.upto threeAgainSpec)) threeAgainUptoCard

/-- THE SECOND FORM's CARD OF 'seneschalkeep.ThreeAlone'. -/
def threeAloneUptoCard : Claim7 := { stood := { row := threeAloneUptoRow, standIns := [], harness := (true, "0e32329d060489c3332535786d5328ff69ddfde986b0d87bf517476637237e11"), looks := true }, kinds := [], alts := [], laidByText := true, laidKinds := [.data, .data, .data, .data, .sentinel, .sentinel, .pinned], laidTests := true, laidLooks := .later }
def ThreeAloneUptoCardSaid : Prop := Claim7.holds Tryz.pinned (.plain (OpenSpec.upto threeAloneSpec)) threeAloneUptoCard
end Rows
end Go.Proofs.YtaogilpkeeigoabGreatDoor
