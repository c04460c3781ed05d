/-
  DERIVED. GIVEN WITH THE SEED: THE CARDS: each row of YteoihbfknkghbabGreatDoorRows.lean that lists a variable, with what it lists TIED to the program's text (the seventh form; the later family's looks); each row that meets fmt, with fmt's text TOLD by the authors' own Lean function (tested against real Go, not proved from fmt's source: count such statements apart). THE CARD IS WHAT COUNTS. Prove the row's statement (the work); the ties are given (YteoihbfknkghbabGreatDoorTie.lean); close each card by the builder's one call (the guide's Derived/Test/ToyasCard.lean, 'card_holds'). Laid BY PROGRAM, IN A SANDBOX (cutbox-door.mjs). By AI agents, Wed Nov 11 2026. No macro, syntax, notation, axiom, sorry.
-/
import Derived.Test.YteoihbfknkghbabGreatDoorRows
import GoSem.ClaimSeven
namespace Go.Proofs.YteoihbfknkghbabGreatDoor
namespace Rows

/-- THE TIED CARD OF 'seneschallaw.ThreeSays'. -/
def threeSaysCard : Claim7 := { stood := { row := threeSaysRow, standIns := [], harness := (true, "36b7df22aa19da581692acdd8171deb9a40c1484eef3f2486ed47ed1a8b504f8"), looks := true }, kinds := [], alts := [], laidByText := true, laidKinds := [.data, .data, .data, .data, .sentinel, .sentinel, .pinned], laidTests := true, laidLooks := .later }
def ThreeSaysCardSaid : Prop := Claim7.holds Tryz.pinned (.plain (OpenSpec.ofChange threeSaysSpec)) threeSaysCard

/-- THE TIED CARD OF 'seneschalkeep.ThreeAgain'. -/
def threeAgainCard : Claim7 := { stood := { row := threeAgainRow, standIns := [], harness := (true, "36b7df22aa19da581692acdd8171deb9a40c1484eef3f2486ed47ed1a8b504f8"), looks := true }, kinds := [], alts := [], laidByText := true, laidKinds := [.data, .data, .data, .data, .sentinel, .sentinel, .pinned], laidTests := true, laidLooks := .later }
def ThreeAgainCardSaid : Prop := Claim7.holds Tryz.pinned (.plain (OpenSpec.ofChange threeAgainSpec)) threeAgainCard

/-- THE TIED CARD OF 'seneschalkeep.ThreeWants'. -/
def threeWantsCard : Claim7 := { stood := { row := threeWantsRow, standIns := [], harness := (true, "36b7df22aa19da581692acdd8171deb9a40c1484eef3f2486ed47ed1a8b504f8"), looks := true }, kinds := [], alts := [], laidByText := true, laidKinds := [.data, .data, .data, .data, .sentinel, .sentinel, .pinned], laidTests := true, laidLooks := .later }
def ThreeWantsCardSaid : Prop := Claim7.holds Tryz.pinned (.plain (OpenSpec.ofChange threeWantsSpec)) threeWantsCard

/-- THE TIED CARD OF 'seneschalkeep.ThreeAlone'. -/
def threeAloneCard : Claim7 := { stood := { row := threeAloneRow, standIns := [], harness := (true, "36b7df22aa19da581692acdd8171deb9a40c1484eef3f2486ed47ed1a8b504f8"), looks := true }, kinds := [], alts := [], laidByText := true, laidKinds := [.data, .data, .data, .data, .sentinel, .sentinel, .pinned], laidTests := true, laidLooks := .later }
def ThreeAloneCardSaid : Prop := Claim7.holds Tryz.pinned (.plain (OpenSpec.ofChange threeAloneSpec)) threeAloneCard

/-- THE TIED CARD OF 'seneschalkeep.ThreeLoses'. -/
def threeLosesCard : Claim7 := { stood := { row := threeLosesRow, standIns := [], harness := (true, "36b7df22aa19da581692acdd8171deb9a40c1484eef3f2486ed47ed1a8b504f8"), looks := true }, kinds := [], alts := [], laidByText := true, laidKinds := [.data, .data, .data, .data, .sentinel, .sentinel, .pinned], laidTests := true, laidLooks := .later }
def ThreeLosesCardSaid : Prop := Claim7.holds Tryz.pinned (.plain (OpenSpec.ofChange threeLosesSpec)) threeLosesCard

/-- THE SECOND FORM's CARD OF 'seneschallaw.ThreeSays'. -/
def threeSaysUptoCard : Claim7 := { stood := { row := threeSaysUptoRow, standIns := [], harness := (true, "36b7df22aa19da581692acdd8171deb9a40c1484eef3f2486ed47ed1a8b504f8"), looks := true }, kinds := [], alts := [], laidByText := true, laidKinds := [.data, .data, .data, .data, .sentinel, .sentinel, .pinned], laidTests := true, laidLooks := .later }
def ThreeSaysUptoCardSaid : Prop := Claim7.holds Tryz.pinned (.plain (OpenSpec.upto threeSaysSpec)) threeSaysUptoCard

/-- THE SECOND FORM's CARD OF 'seneschalkeep.ThreeAgain'. -/
def threeAgainUptoCard : Claim7 := { stood := { row := threeAgainUptoRow, standIns := [], harness := (true, "36b7df22aa19da581692acdd8171deb9a40c1484eef3f2486ed47ed1a8b504f8"), looks := true }, kinds := [], alts := [], laidByText := true, laidKinds := [.data, .data, .data, .data, .sentinel, .sentinel, .pinned], laidTests := true, laidLooks := .later }
def ThreeAgainUptoCardSaid : Prop := Claim7.holds Tryz.pinned (.plain (OpenSpec.upto threeAgainSpec)) threeAgainUptoCard

/-- THE SECOND FORM's CARD OF 'seneschalkeep.ThreeWants'. -/
def threeWantsUptoCard : Claim7 := { stood := { row := threeWantsUptoRow, standIns := [], harness := (true, "36b7df22aa19da581692acdd8171deb9a40c1484eef3f2486ed47ed1a8b504f8"), looks := true }, kinds := [], alts := [], laidByText := true, laidKinds := [.data, .data, .data, .data, .sentinel, .sentinel, .pinned], laidTests := true, laidLooks := .later }
def ThreeWantsUptoCardSaid : Prop := Claim7.holds Tryz.pinned (.plain (OpenSpec.upto threeWantsSpec)) threeWantsUptoCard

/-- THE SECOND FORM's CARD OF 'seneschalkeep.ThreeAlone'. -/
def threeAloneUptoCard : Claim7 := { stood := { row := threeAloneUptoRow, standIns := [], harness := (true, "36b7df22aa19da581692acdd8171deb9a40c1484eef3f2486ed47ed1a8b504f8"), looks := true }, kinds := [], alts := [], laidByText := true, laidKinds := [.data, .data, .data, .data, .sentinel, .sentinel, .pinned], laidTests := true, laidLooks := .later }
def ThreeAloneUptoCardSaid : Prop := Claim7.holds Tryz.pinned (.plain (OpenSpec.upto threeAloneSpec)) threeAloneUptoCard

/-- THE SECOND FORM's CARD OF 'seneschalkeep.ThreeLoses'. -/
def threeLosesUptoCard : Claim7 := { stood := { row := threeLosesUptoRow, standIns := [], harness := (true, "36b7df22aa19da581692acdd8171deb9a40c1484eef3f2486ed47ed1a8b504f8"), looks := true }, kinds := [], alts := [], laidByText := true, laidKinds := [.data, .data, .data, .data, .sentinel, .sentinel, .pinned], laidTests := true, laidLooks := .later }
def ThreeLosesUptoCardSaid : Prop := Claim7.holds Tryz.pinned (.plain (OpenSpec.upto threeLosesSpec)) threeLosesUptoCard
end Rows
end Go.Proofs.YteoihbfknkghbabGreatDoor
