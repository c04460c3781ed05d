/-
  DERIVED. GIVEN WITH THE SEED: THE CARDS: each row of YtmlcldocbafpkaaGreatDoorRows.lean that lists a variable, with what it lists TIED to the program's text (the seventh form; the later family's looks); each row that meets fmt, with fmt's text TOLD by the authors' own Lean function (tested against real Go, not proved from fmt's source: count such statements apart). THE CARD IS WHAT COUNTS. Prove the row's statement (the work); the ties are given (YtmlcldocbafpkaaGreatDoorTie.lean); close each card by the builder's one call (the guide's Derived/Test/ToyasCard.lean, 'card_holds'). Laid BY PROGRAM, IN A SANDBOX (cutbox-door.mjs). By AI agents, Wed Nov 11 2026. No macro, syntax, notation, axiom, sorry.
-/
import Derived.Test.YtmlcldocbafpkaaGreatDoorRows
import GoSem.ClaimSeven
namespace Go.Proofs.YtmlcldocbafpkaaGreatDoor
namespace Rows

/-- THE TIED CARD OF 'seneschallaw.JsonSays'. -/
def jsonSaysCard : Claim7 := { stood := { row := jsonSaysRow, standIns := [], harness := (true, "c03900a86820fba9454e21031e44ecae38ee3d730ac7c1156fcb6f09f7047d1e"), looks := true }, kinds := [], alts := [], laidByText := true, laidKinds := [.data, .data, .data, .data, .sentinel, .sentinel, .pinned], laidTests := true, laidLooks := .later }
def JsonSaysCardSaid : Prop := Claim7.holds Tryz.pinned (.plain (OpenSpec.ofChange jsonSaysSpec)) jsonSaysCard

/-- THE TIED CARD OF 'seneschallaw.PtrGoes'. -/
def ptrGoesCard : Claim7 := { stood := { row := ptrGoesRow, standIns := [], harness := (true, "c03900a86820fba9454e21031e44ecae38ee3d730ac7c1156fcb6f09f7047d1e"), looks := true }, kinds := [], alts := [], laidByText := true, laidKinds := [.data, .data, .data, .data, .sentinel, .sentinel, .pinned], laidTests := true, laidLooks := .later }
def PtrGoesCardSaid : Prop := Claim7.holds Tryz.pinned (.plain (OpenSpec.ofChange ptrGoesSpec)) ptrGoesCard

/-- THE TIED CARD OF 'seneschallaw.MergeSays'. -/
def mergeSaysCard : Claim7 := { stood := { row := mergeSaysRow, standIns := [], harness := (true, "c03900a86820fba9454e21031e44ecae38ee3d730ac7c1156fcb6f09f7047d1e"), looks := true }, kinds := [], alts := [], laidByText := true, laidKinds := [.data, .data, .data, .data, .sentinel, .sentinel, .pinned], laidTests := true, laidLooks := .later }
def MergeSaysCardSaid : Prop := Claim7.holds Tryz.pinned (.plain (OpenSpec.ofChange mergeSaysSpec)) mergeSaysCard

/-- THE SECOND FORM's CARD OF 'seneschallaw.JsonSays'. -/
def jsonSaysUptoCard : Claim7 := { stood := { row := jsonSaysUptoRow, standIns := [], harness := (true, "c03900a86820fba9454e21031e44ecae38ee3d730ac7c1156fcb6f09f7047d1e"), looks := true }, kinds := [], alts := [], laidByText := true, laidKinds := [.data, .data, .data, .data, .sentinel, .sentinel, .pinned], laidTests := true, laidLooks := .later }
def JsonSaysUptoCardSaid : Prop := Claim7.holds Tryz.pinned (.plain (OpenSpec.upto jsonSaysSpec)) jsonSaysUptoCard

/-- THE SECOND FORM's CARD OF 'seneschallaw.PtrGoes'. -/
def ptrGoesUptoCard : Claim7 := { stood := { row := ptrGoesUptoRow, standIns := [], harness := (true, "c03900a86820fba9454e21031e44ecae38ee3d730ac7c1156fcb6f09f7047d1e"), looks := true }, kinds := [], alts := [], laidByText := true, laidKinds := [.data, .data, .data, .data, .sentinel, .sentinel, .pinned], laidTests := true, laidLooks := .later }
def PtrGoesUptoCardSaid : Prop := Claim7.holds Tryz.pinned (.plain (OpenSpec.upto ptrGoesSpec)) ptrGoesUptoCard

/-- THE SECOND FORM's CARD OF 'seneschallaw.MergeSays'. -/
def mergeSaysUptoCard : Claim7 := { stood := { row := mergeSaysUptoRow, standIns := [], harness := (true, "c03900a86820fba9454e21031e44ecae38ee3d730ac7c1156fcb6f09f7047d1e"), looks := true }, kinds := [], alts := [], laidByText := true, laidKinds := [.data, .data, .data, .data, .sentinel, .sentinel, .pinned], laidTests := true, laidLooks := .later }
def MergeSaysUptoCardSaid : Prop := Claim7.holds Tryz.pinned (.plain (OpenSpec.upto mergeSaysSpec)) mergeSaysUptoCard
end Rows
end Go.Proofs.YtmlcldocbafpkaaGreatDoor
