/-
  DERIVED. GIVEN WITH THE SEED: THE CARDS: each row of YtnjjlnhchfoigabDoorRows.lean that lists a variable, with what it lists TIED to the program's text (the seventh form; the later family's looks); each row that meets fmt, with fmt's text TOLD by the authors' own Lean function (tested against real Go, not proved from fmt's source: count such statements apart). THE CARD IS WHAT COUNTS. Prove the row's statement (the work); the ties are given (YtnjjlnhchfoigabDoorTie.lean); close each card by the builder's one call (the guide's Derived/Test/ToyasCard.lean, 'card_holds'). Laid BY PROGRAM, IN A SANDBOX (cutbox-door.mjs). By AI agents, Wed Nov 11 2026. No macro, syntax, notation, axiom, sorry.
-/
import Derived.Test.YtnjjlnhchfoigabDoorRows
import GoSem.ClaimSeven
namespace Go.Proofs.YtnjjlnhchfoigabDoor
namespace Rows

/-- THE TIED CARD OF 'seneschalkeep.GrantsOwn'. -/
def grantsOwnCard : Claim7 := { stood := { row := grantsOwnRow, standIns := [], harness := (true, "0eccf4909e9841590634b90c7707108257fb457baca9e17ffb0908cf9bac29be"), looks := false }, kinds := [], alts := [], laidByText := true, laidKinds := [.data, .data, .data], laidTests := true, laidLooks := .later }
def GrantsOwnCardSaid : Prop := Claim7.holds Tryd.pinned (.plain (OpenSpec.ofChange grantsOwnSpec)) grantsOwnCard

/-- THE TIED CARD OF 'seneschalkeep.OwnGrants'. -/
def ownGrantsCard : Claim7 := { stood := { row := ownGrantsRow, standIns := [], harness := (true, "0eccf4909e9841590634b90c7707108257fb457baca9e17ffb0908cf9bac29be"), looks := false }, kinds := [], alts := [], laidByText := true, laidKinds := [.data, .data, .data], laidTests := true, laidLooks := .later }
def OwnGrantsCardSaid : Prop := Claim7.holds Tryd.pinned (.plain (OpenSpec.ofChange ownGrantsSpec)) ownGrantsCard

/-- THE SECOND FORM's CARD OF 'seneschalkeep.GrantsOwn'. -/
def grantsOwnUptoCard : Claim7 := { stood := { row := grantsOwnUptoRow, standIns := [], harness := (true, "0eccf4909e9841590634b90c7707108257fb457baca9e17ffb0908cf9bac29be"), looks := false }, kinds := [], alts := [], laidByText := true, laidKinds := [.data, .data, .data], laidTests := true, laidLooks := .later }
def GrantsOwnUptoCardSaid : Prop := Claim7.holds Tryd.pinned (.plain (OpenSpec.upto grantsOwnSpec)) grantsOwnUptoCard

/-- THE SECOND FORM's CARD OF 'seneschalkeep.OwnGrants'. -/
def ownGrantsUptoCard : Claim7 := { stood := { row := ownGrantsUptoRow, standIns := [], harness := (true, "0eccf4909e9841590634b90c7707108257fb457baca9e17ffb0908cf9bac29be"), looks := false }, kinds := [], alts := [], laidByText := true, laidKinds := [.data, .data, .data], laidTests := true, laidLooks := .later }
def OwnGrantsUptoCardSaid : Prop := Claim7.holds Tryd.pinned (.plain (OpenSpec.upto ownGrantsSpec)) ownGrantsUptoCard
end Rows
end Go.Proofs.YtnjjlnhchfoigabDoor
