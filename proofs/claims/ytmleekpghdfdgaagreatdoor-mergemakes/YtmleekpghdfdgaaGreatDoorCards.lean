/-
  DERIVED. GIVEN WITH THE SEED: THE CARDS: each row of YtmleekpghdfdgaaGreatDoorRows.lean that lists a variable, with what it lists TIED to the program's text (the seventh form; the later family's looks); each row that meets fmt, with fmt's text TOLD by the authors' own Lean function (tested against real Go, not proved from fmt's source: count such statements apart). THE CARD IS WHAT COUNTS. Prove the row's statement (the work); the ties are given (YtmleekpghdfdgaaGreatDoorTie.lean); close each card by the builder's one call (the guide's Derived/Test/ToyasCard.lean, 'card_holds'). Laid BY PROGRAM, IN A SANDBOX (cutbox-door.mjs). By AI agents, Wed Nov 11 2026. No macro, syntax, notation, axiom, sorry.
-/
import Derived.Test.YtmleekpghdfdgaaGreatDoorRows
import GoSem.ClaimSeven
namespace Go.Proofs.YtmleekpghdfdgaaGreatDoor
namespace Rows

/-- THE TIED CARD OF 'seneschallaw.JsonCanons'. -/
def jsonCanonsCard : Claim7 := { stood := { row := jsonCanonsRow, standIns := [], harness := (true, "b6cf2ea6402c0dde9be6e19595d639873f36de3b2395b13a6254feb34ae46c89"), looks := true }, kinds := [], alts := [], laidByText := true, laidKinds := [.data, .data, .data, .data, .sentinel, .sentinel, .pinned], laidTests := true, laidLooks := .later }
def JsonCanonsCardSaid : Prop := Claim7.holds Tryz.pinned (.plain (OpenSpec.ofChange jsonCanonsSpec)) jsonCanonsCard

/-- THE TIED CARD OF 'seneschallaw.JsonSays'. -/
def jsonSaysCard : Claim7 := { stood := { row := jsonSaysRow, standIns := [], harness := (true, "b6cf2ea6402c0dde9be6e19595d639873f36de3b2395b13a6254feb34ae46c89"), looks := true }, kinds := [], alts := [], laidByText := true, laidKinds := [.data, .data, .data, .data, .sentinel, .sentinel, .pinned], laidTests := true, laidLooks := .later }
def JsonSaysCardSaid : Prop := Claim7.holds Tryz.pinned (.plain (OpenSpec.ofChange jsonSaysSpec)) jsonSaysCard

/-- THE TIED CARD OF 'seneschallaw.PtrGoes'. -/
def ptrGoesCard : Claim7 := { stood := { row := ptrGoesRow, standIns := [], harness := (true, "b6cf2ea6402c0dde9be6e19595d639873f36de3b2395b13a6254feb34ae46c89"), looks := true }, kinds := [], alts := [], laidByText := true, laidKinds := [.data, .data, .data, .data, .sentinel, .sentinel, .pinned], laidTests := true, laidLooks := .later }
def PtrGoesCardSaid : Prop := Claim7.holds Tryz.pinned (.plain (OpenSpec.ofChange ptrGoesSpec)) ptrGoesCard

/-- THE TIED CARD OF 'seneschallaw.MergeSays'. -/
def mergeSaysCard : Claim7 := { stood := { row := mergeSaysRow, standIns := [], harness := (true, "b6cf2ea6402c0dde9be6e19595d639873f36de3b2395b13a6254feb34ae46c89"), looks := true }, kinds := [], alts := [], laidByText := true, laidKinds := [.data, .data, .data, .data, .sentinel, .sentinel, .pinned], laidTests := true, laidLooks := .later }
def MergeSaysCardSaid : Prop := Claim7.holds Tryz.pinned (.plain (OpenSpec.ofChange mergeSaysSpec)) mergeSaysCard

/-- THE TIED CARD OF 'seneschalkeep.MergeNothing'. -/
def mergeNothingCard : Claim7 := { stood := { row := mergeNothingRow, standIns := [], harness := (true, "b6cf2ea6402c0dde9be6e19595d639873f36de3b2395b13a6254feb34ae46c89"), looks := true }, kinds := [], alts := [], laidByText := true, laidKinds := [.data, .data, .data, .sentinel, .sentinel], laidTests := true, laidLooks := .later }
def MergeNothingCardSaid : Prop := Claim7.holds Tryz.pinned (.plain (OpenSpec.ofChange mergeNothingSpec)) mergeNothingCard

/-- THE TIED CARD OF 'seneschalkeep.MergeMakes'. -/
def mergeMakesCard : Claim7 := { stood := { row := mergeMakesRow, standIns := [], harness := (true, "b6cf2ea6402c0dde9be6e19595d639873f36de3b2395b13a6254feb34ae46c89"), looks := true }, kinds := [], alts := [], laidByText := true, laidKinds := [.data, .data, .data, .sentinel, .sentinel], laidTests := true, laidLooks := .later }
def MergeMakesCardSaid : Prop := Claim7.holds Tryz.pinned (.plain (OpenSpec.ofChange mergeMakesSpec)) mergeMakesCard

/-- THE SECOND FORM's CARD OF 'seneschallaw.JsonCanons'. -/
def jsonCanonsUptoCard : Claim7 := { stood := { row := jsonCanonsUptoRow, standIns := [], harness := (true, "b6cf2ea6402c0dde9be6e19595d639873f36de3b2395b13a6254feb34ae46c89"), looks := true }, kinds := [], alts := [], laidByText := true, laidKinds := [.data, .data, .data, .data, .sentinel, .sentinel, .pinned], laidTests := true, laidLooks := .later }
def JsonCanonsUptoCardSaid : Prop := Claim7.holds Tryz.pinned (.plain (OpenSpec.upto jsonCanonsSpec)) jsonCanonsUptoCard

/-- THE SECOND FORM's CARD OF 'seneschallaw.JsonSays'. -/
def jsonSaysUptoCard : Claim7 := { stood := { row := jsonSaysUptoRow, standIns := [], harness := (true, "b6cf2ea6402c0dde9be6e19595d639873f36de3b2395b13a6254feb34ae46c89"), looks := true }, kinds := [], alts := [], laidByText := true, laidKinds := [.data, .data, .data, .data, .sentinel, .sentinel, .pinned], laidTests := true, laidLooks := .later }
def JsonSaysUptoCardSaid : Prop := Claim7.holds Tryz.pinned (.plain (OpenSpec.upto jsonSaysSpec)) jsonSaysUptoCard

/-- THE SECOND FORM's CARD OF 'seneschallaw.PtrGoes'. -/
def ptrGoesUptoCard : Claim7 := { stood := { row := ptrGoesUptoRow, standIns := [], harness := (true, "b6cf2ea6402c0dde9be6e19595d639873f36de3b2395b13a6254feb34ae46c89"), looks := true }, kinds := [], alts := [], laidByText := true, laidKinds := [.data, .data, .data, .data, .sentinel, .sentinel, .pinned], laidTests := true, laidLooks := .later }
def PtrGoesUptoCardSaid : Prop := Claim7.holds Tryz.pinned (.plain (OpenSpec.upto ptrGoesSpec)) ptrGoesUptoCard

/-- THE SECOND FORM's CARD OF 'seneschallaw.MergeSays'. -/
def mergeSaysUptoCard : Claim7 := { stood := { row := mergeSaysUptoRow, standIns := [], harness := (true, "b6cf2ea6402c0dde9be6e19595d639873f36de3b2395b13a6254feb34ae46c89"), looks := true }, kinds := [], alts := [], laidByText := true, laidKinds := [.data, .data, .data, .data, .sentinel, .sentinel, .pinned], laidTests := true, laidLooks := .later }
def MergeSaysUptoCardSaid : Prop := Claim7.holds Tryz.pinned (.plain (OpenSpec.upto mergeSaysSpec)) mergeSaysUptoCard

/-- THE SECOND FORM's CARD OF 'seneschalkeep.MergeNothing'. -/
def mergeNothingUptoCard : Claim7 := { stood := { row := mergeNothingUptoRow, standIns := [], harness := (true, "b6cf2ea6402c0dde9be6e19595d639873f36de3b2395b13a6254feb34ae46c89"), looks := true }, kinds := [], alts := [], laidByText := true, laidKinds := [.data, .data, .data, .sentinel, .sentinel], laidTests := true, laidLooks := .later }
def MergeNothingUptoCardSaid : Prop := Claim7.holds Tryz.pinned (.plain (OpenSpec.upto mergeNothingSpec)) mergeNothingUptoCard

/-- THE SECOND FORM's CARD OF 'seneschalkeep.MergeMakes'. -/
def mergeMakesUptoCard : Claim7 := { stood := { row := mergeMakesUptoRow, standIns := [], harness := (true, "b6cf2ea6402c0dde9be6e19595d639873f36de3b2395b13a6254feb34ae46c89"), looks := true }, kinds := [], alts := [], laidByText := true, laidKinds := [.data, .data, .data, .sentinel, .sentinel], laidTests := true, laidLooks := .later }
def MergeMakesUptoCardSaid : Prop := Claim7.holds Tryz.pinned (.plain (OpenSpec.upto mergeMakesSpec)) mergeMakesUptoCard
end Rows
end Go.Proofs.YtmleekpghdfdgaaGreatDoor
