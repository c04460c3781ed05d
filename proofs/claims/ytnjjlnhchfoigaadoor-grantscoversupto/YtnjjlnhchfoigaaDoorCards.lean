/-
  DERIVED. GIVEN WITH THE SEED: THE CARDS: each row of YtnjjlnhchfoigaaDoorRows.lean that lists a variable, with what it lists TIED to the program's text (the seventh form; the later family's looks); each row that meets fmt, with fmt's text TOLD by the authors' own Lean function (tested against real Go, not proved from fmt's source: count such statements apart). THE CARD IS WHAT COUNTS. Prove the row's statement (the work); the ties are given (YtnjjlnhchfoigaaDoorTie.lean); close each card by the builder's one call (the guide's Derived/Test/ToyasCard.lean, 'card_holds'). Laid BY PROGRAM, IN A SANDBOX (cutbox-door.mjs). By AI agents, Wed Nov 11 2026. No macro, syntax, notation, axiom, sorry.
-/
import Derived.Test.YtnjjlnhchfoigaaDoorRows
import GoSem.ClaimSeven
namespace Go.Proofs.YtnjjlnhchfoigaaDoor
namespace Rows

/-- THE TIED CARD OF 'seneschallaw.GrantsGives'. -/
def grantsGivesCard : Claim7 := { stood := { row := grantsGivesRow, standIns := [], harness := (true, "3013c63fed9b768410c40e940b57b63bc96d34bfe582c5b93690182768beba6f"), looks := false }, kinds := [], alts := [], laidByText := true, laidKinds := [.data, .data, .data], laidTests := true, laidLooks := .later }
def GrantsGivesCardSaid : Prop := Claim7.holds Tryd.pinned (.plain (OpenSpec.ofChange grantsGivesSpec)) grantsGivesCard

/-- THE TIED CARD OF 'seneschalkeep.GrantsCovers'. -/
def grantsCoversCard : Claim7 := { stood := { row := grantsCoversRow, standIns := [], harness := (true, "3013c63fed9b768410c40e940b57b63bc96d34bfe582c5b93690182768beba6f"), looks := false }, kinds := [], alts := [], laidByText := true, laidKinds := [.data, .data, .data], laidTests := true, laidLooks := .later }
def GrantsCoversCardSaid : Prop := Claim7.holds Tryd.pinned (.plain (OpenSpec.ofChange grantsCoversSpec)) grantsCoversCard

/-- THE SECOND FORM's CARD OF 'seneschallaw.GrantsGives'. -/
def grantsGivesUptoCard : Claim7 := { stood := { row := grantsGivesUptoRow, standIns := [], harness := (true, "3013c63fed9b768410c40e940b57b63bc96d34bfe582c5b93690182768beba6f"), looks := false }, kinds := [], alts := [], laidByText := true, laidKinds := [.data, .data, .data], laidTests := true, laidLooks := .later }
def GrantsGivesUptoCardSaid : Prop := Claim7.holds Tryd.pinned (.plain (OpenSpec.upto grantsGivesSpec)) grantsGivesUptoCard

/-- THE SECOND FORM's CARD OF 'seneschalkeep.GrantsCovers'. -/
def grantsCoversUptoCard : Claim7 := { stood := { row := grantsCoversUptoRow, standIns := [], harness := (true, "3013c63fed9b768410c40e940b57b63bc96d34bfe582c5b93690182768beba6f"), looks := false }, kinds := [], alts := [], laidByText := true, laidKinds := [.data, .data, .data], laidTests := true, laidLooks := .later }
def GrantsCoversUptoCardSaid : Prop := Claim7.holds Tryd.pinned (.plain (OpenSpec.upto grantsCoversSpec)) grantsCoversUptoCard
end Rows
end Go.Proofs.YtnjjlnhchfoigaaDoor
