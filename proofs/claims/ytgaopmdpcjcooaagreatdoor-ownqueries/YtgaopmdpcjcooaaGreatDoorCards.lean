/-
  DERIVED. GIVEN WITH THE SEED: THE CARDS: each row of YtgaopmdpcjcooaaGreatDoorRows.lean that lists a variable, with what it lists TIED to the program's text (the seventh form; the later family's looks); each row that meets fmt, with fmt's text TOLD by the authors' own Lean function (tested against real Go, not proved from fmt's source: count such statements apart). THE CARD IS WHAT COUNTS. Prove the row's statement (the work); the ties are given (YtgaopmdpcjcooaaGreatDoorTie.lean); close each card by the builder's one call (the guide's Derived/Test/ToyasCard.lean, 'card_holds'). Laid BY PROGRAM, IN A SANDBOX (cutbox-door.mjs). By AI agents, Wed Nov 11 2026. No macro, syntax, notation, axiom, sorry.
-/
import Derived.Test.YtgaopmdpcjcooaaGreatDoorRows
import GoSem.ClaimSeven
namespace Go.Proofs.YtgaopmdpcjcooaaGreatDoor
namespace Rows

/-- THE TIED CARD OF 'seneschallaw.QuerySolves'. -/
def querySolvesCard : Claim7 := { stood := { row := querySolvesRow, standIns := [], harness := (true, "534fd2adbb27c2087a4ac7c807dad36a3c9a6c3b934b848eebc2d3361552b94a"), looks := false }, kinds := [], alts := [], laidByText := true, laidKinds := [.data, .data, .data, .data, .pinned], laidTests := true, laidLooks := .later }
def QuerySolvesCardSaid : Prop := Claim7.holds Tryz.pinned (.plain (OpenSpec.ofChange querySolvesSpec)) querySolvesCard

/-- THE TIED CARD OF 'seneschalkeep.OwnQueries'. -/
def ownQueriesCard : Claim7 := { stood := { row := ownQueriesRow, standIns := [], harness := (true, "534fd2adbb27c2087a4ac7c807dad36a3c9a6c3b934b848eebc2d3361552b94a"), looks := false }, kinds := [], alts := [], laidByText := true, laidKinds := [.data, .data, .data, .data, .pinned], laidTests := true, laidLooks := .later }
def OwnQueriesCardSaid : Prop := Claim7.holds Tryz.pinned (.plain (OpenSpec.ofChange ownQueriesSpec)) ownQueriesCard

/-- THE SECOND FORM's CARD OF 'seneschallaw.QuerySolves'. -/
def querySolvesUptoCard : Claim7 := { stood := { row := querySolvesUptoRow, standIns := [], harness := (true, "534fd2adbb27c2087a4ac7c807dad36a3c9a6c3b934b848eebc2d3361552b94a"), looks := false }, kinds := [], alts := [], laidByText := true, laidKinds := [.data, .data, .data, .data, .pinned], laidTests := true, laidLooks := .later }
def QuerySolvesUptoCardSaid : Prop := Claim7.holds Tryz.pinned (.plain (OpenSpec.upto querySolvesSpec)) querySolvesUptoCard

/-- THE SECOND FORM's CARD OF 'seneschalkeep.OwnQueries'. -/
def ownQueriesUptoCard : Claim7 := { stood := { row := ownQueriesUptoRow, standIns := [], harness := (true, "534fd2adbb27c2087a4ac7c807dad36a3c9a6c3b934b848eebc2d3361552b94a"), looks := false }, kinds := [], alts := [], laidByText := true, laidKinds := [.data, .data, .data, .data, .pinned], laidTests := true, laidLooks := .later }
def OwnQueriesUptoCardSaid : Prop := Claim7.holds Tryz.pinned (.plain (OpenSpec.upto ownQueriesSpec)) ownQueriesUptoCard
end Rows
end Go.Proofs.YtgaopmdpcjcooaaGreatDoor
