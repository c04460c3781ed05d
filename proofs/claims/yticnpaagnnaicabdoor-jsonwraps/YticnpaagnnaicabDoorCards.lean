/-
  DERIVED. GIVEN WITH THE SEED: THE CARDS: each row of YticnpaagnnaicabDoorRows.lean that lists a variable, with what it lists TIED to the program's text (the seventh form; the later family's looks); each row that meets fmt, with fmt's text TOLD by the authors' own Lean function (tested against real Go, not proved from fmt's source: count such statements apart). THE CARD IS WHAT COUNTS. Prove the row's statement (the work); the ties are given (YticnpaagnnaicabDoorTie.lean); close each card by the builder's one call (the guide's Derived/Test/ToyasCard.lean, 'card_holds'). Laid BY PROGRAM, IN A SANDBOX (cutbox-door.mjs). By AI agents, Wed Nov 11 2026. No macro, syntax, notation, axiom, sorry.
-/
import Derived.Test.YticnpaagnnaicabDoorRows
import GoSem.ClaimSeven
namespace Go.Proofs.YticnpaagnnaicabDoor
namespace Rows

/-- THE TIED CARD OF 'seneschalkeep.JsonApart'. -/
def jsonApartCard : Claim7 := { stood := { row := jsonApartRow, standIns := [], harness := (true, "844f80d88ef179bdbd5f568311f5ba3114256ead9f73ec5105c966587eabbc93"), looks := true }, kinds := [], alts := [], laidByText := true, laidKinds := [.data, .data, .data, .sentinel, .sentinel], laidTests := true, laidLooks := .later }
def JsonApartCardSaid : Prop := Claim7.holds Tryd.pinned (.plain (OpenSpec.ofChange jsonApartSpec)) jsonApartCard

/-- THE TIED CARD OF 'seneschalkeep.JsonWraps'. -/
def jsonWrapsCard : Claim7 := { stood := { row := jsonWrapsRow, standIns := [], harness := (true, "844f80d88ef179bdbd5f568311f5ba3114256ead9f73ec5105c966587eabbc93"), looks := true }, kinds := [], alts := [], laidByText := true, laidKinds := [.data, .data, .data, .sentinel, .sentinel], laidTests := true, laidLooks := .later }
def JsonWrapsCardSaid : Prop := Claim7.holds Tryd.pinned (.plain (OpenSpec.ofChange jsonWrapsSpec)) jsonWrapsCard

/-- THE TIED CARD OF 'seneschalkeep.JsonQuotes'. -/
def jsonQuotesCard : Claim7 := { stood := { row := jsonQuotesRow, standIns := [], harness := (true, "844f80d88ef179bdbd5f568311f5ba3114256ead9f73ec5105c966587eabbc93"), looks := true }, kinds := [], alts := [], laidByText := true, laidKinds := [.data, .data, .data, .sentinel, .sentinel], laidTests := true, laidLooks := .later }
def JsonQuotesCardSaid : Prop := Claim7.holds Tryd.pinned (.plain (OpenSpec.ofChange jsonQuotesSpec)) jsonQuotesCard

/-- THE SECOND FORM's CARD OF 'seneschalkeep.JsonApart'. -/
def jsonApartUptoCard : Claim7 := { stood := { row := jsonApartUptoRow, standIns := [], harness := (true, "844f80d88ef179bdbd5f568311f5ba3114256ead9f73ec5105c966587eabbc93"), looks := true }, kinds := [], alts := [], laidByText := true, laidKinds := [.data, .data, .data, .sentinel, .sentinel], laidTests := true, laidLooks := .later }
def JsonApartUptoCardSaid : Prop := Claim7.holds Tryd.pinned (.plain (OpenSpec.upto jsonApartSpec)) jsonApartUptoCard

/-- THE SECOND FORM's CARD OF 'seneschalkeep.JsonWraps'. -/
def jsonWrapsUptoCard : Claim7 := { stood := { row := jsonWrapsUptoRow, standIns := [], harness := (true, "844f80d88ef179bdbd5f568311f5ba3114256ead9f73ec5105c966587eabbc93"), looks := true }, kinds := [], alts := [], laidByText := true, laidKinds := [.data, .data, .data, .sentinel, .sentinel], laidTests := true, laidLooks := .later }
def JsonWrapsUptoCardSaid : Prop := Claim7.holds Tryd.pinned (.plain (OpenSpec.upto jsonWrapsSpec)) jsonWrapsUptoCard

/-- THE SECOND FORM's CARD OF 'seneschalkeep.JsonQuotes'. -/
def jsonQuotesUptoCard : Claim7 := { stood := { row := jsonQuotesUptoRow, standIns := [], harness := (true, "844f80d88ef179bdbd5f568311f5ba3114256ead9f73ec5105c966587eabbc93"), looks := true }, kinds := [], alts := [], laidByText := true, laidKinds := [.data, .data, .data, .sentinel, .sentinel], laidTests := true, laidLooks := .later }
def JsonQuotesUptoCardSaid : Prop := Claim7.holds Tryd.pinned (.plain (OpenSpec.upto jsonQuotesSpec)) jsonQuotesUptoCard
end Rows
end Go.Proofs.YticnpaagnnaicabDoor
