/-
  DERIVED. GIVEN WITH THE SEED: THE CARDS: each row of YtjcdklbimaclkaaGreatDoorRows.lean that lists a variable, with what it lists TIED to the program's text (the seventh form; the later family's looks); each row that meets fmt, with fmt's text TOLD by the authors' own Lean function (tested against real Go, not proved from fmt's source: count such statements apart). THE CARD IS WHAT COUNTS. Prove the row's statement (the work); the ties are given (YtjcdklbimaclkaaGreatDoorTie.lean); close each card by the builder's one call (the guide's Derived/Test/ToyasCard.lean, 'card_holds'). Laid BY PROGRAM, IN A SANDBOX (cutbox-door.mjs). By AI agents, Wed Nov 11 2026. No macro, syntax, notation, axiom, sorry.
-/
import Derived.Test.YtjcdklbimaclkaaGreatDoorRows
import GoSem.ClaimSeven
namespace Go.Proofs.YtjcdklbimaclkaaGreatDoor
namespace Rows

/-- THE TIED CARD OF 'seneschallaw.MergeSays'. -/
def mergeSaysCard : Claim7 := { stood := { row := mergeSaysRow, standIns := [], harness := (true, "0ea2111d43823b17c1d53a49deffe418e7294a7802e77cd3531505217e2a7156"), looks := true }, kinds := [], alts := [], laidByText := true, laidKinds := [.data, .data, .data, .data, .sentinel, .sentinel, .pinned], laidTests := true, laidLooks := .later }
def MergeSaysCardSaid : Prop := Claim7.holds Tryz.pinned (.plain (OpenSpec.ofChange mergeSaysSpec)) mergeSaysCard

/-- THE TIED CARD OF 'seneschalkeep.MergeNothing'. -/
def mergeNothingCard : Claim7 := { stood := { row := mergeNothingRow, standIns := [], harness := (true, "0ea2111d43823b17c1d53a49deffe418e7294a7802e77cd3531505217e2a7156"), looks := true }, kinds := [], alts := [], laidByText := true, laidKinds := [.data, .data, .data, .sentinel, .sentinel], laidTests := true, laidLooks := .later }
def MergeNothingCardSaid : Prop := Claim7.holds Tryz.pinned (.plain (OpenSpec.ofChange mergeNothingSpec)) mergeNothingCard

/-- THE TIED CARD OF 'seneschalkeep.MergeMakes'. -/
def mergeMakesCard : Claim7 := { stood := { row := mergeMakesRow, standIns := [], harness := (true, "0ea2111d43823b17c1d53a49deffe418e7294a7802e77cd3531505217e2a7156"), looks := true }, kinds := [], alts := [], laidByText := true, laidKinds := [.data, .data, .data, .sentinel, .sentinel], laidTests := true, laidLooks := .later }
def MergeMakesCardSaid : Prop := Claim7.holds Tryz.pinned (.plain (OpenSpec.ofChange mergeMakesSpec)) mergeMakesCard

/-- THE SECOND FORM's CARD OF 'seneschallaw.MergeSays'. -/
def mergeSaysUptoCard : Claim7 := { stood := { row := mergeSaysUptoRow, standIns := [], harness := (true, "0ea2111d43823b17c1d53a49deffe418e7294a7802e77cd3531505217e2a7156"), looks := true }, kinds := [], alts := [], laidByText := true, laidKinds := [.data, .data, .data, .data, .sentinel, .sentinel, .pinned], laidTests := true, laidLooks := .later }
def MergeSaysUptoCardSaid : Prop := Claim7.holds Tryz.pinned (.plain (OpenSpec.upto mergeSaysSpec)) mergeSaysUptoCard

/-- THE SECOND FORM's CARD OF 'seneschalkeep.MergeNothing'. -/
def mergeNothingUptoCard : Claim7 := { stood := { row := mergeNothingUptoRow, standIns := [], harness := (true, "0ea2111d43823b17c1d53a49deffe418e7294a7802e77cd3531505217e2a7156"), looks := true }, kinds := [], alts := [], laidByText := true, laidKinds := [.data, .data, .data, .sentinel, .sentinel], laidTests := true, laidLooks := .later }
def MergeNothingUptoCardSaid : Prop := Claim7.holds Tryz.pinned (.plain (OpenSpec.upto mergeNothingSpec)) mergeNothingUptoCard

/-- THE SECOND FORM's CARD OF 'seneschalkeep.MergeMakes'. -/
def mergeMakesUptoCard : Claim7 := { stood := { row := mergeMakesUptoRow, standIns := [], harness := (true, "0ea2111d43823b17c1d53a49deffe418e7294a7802e77cd3531505217e2a7156"), looks := true }, kinds := [], alts := [], laidByText := true, laidKinds := [.data, .data, .data, .sentinel, .sentinel], laidTests := true, laidLooks := .later }
def MergeMakesUptoCardSaid : Prop := Claim7.holds Tryz.pinned (.plain (OpenSpec.upto mergeMakesSpec)) mergeMakesUptoCard
end Rows
end Go.Proofs.YtjcdklbimaclkaaGreatDoor
