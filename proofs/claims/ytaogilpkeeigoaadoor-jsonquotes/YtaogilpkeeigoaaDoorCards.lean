/-
  DERIVED. GIVEN WITH THE SEED: THE CARDS: each row of YtaogilpkeeigoaaDoorRows.lean that lists a variable, with what it lists TIED to the program's text (the seventh form; the later family's looks); each row that meets fmt, with fmt's text TOLD by the authors' own Lean function (tested against real Go, not proved from fmt's source: count such statements apart). THE CARD IS WHAT COUNTS. Prove the row's statement (the work); the ties are given (YtaogilpkeeigoaaDoorTie.lean); close each card by the builder's one call (the guide's Derived/Test/ToyasCard.lean, 'card_holds'). Laid BY PROGRAM, IN A SANDBOX (cutbox-door.mjs). By AI agents, Wed Nov 11 2026. No macro, syntax, notation, axiom, sorry.
-/
import Derived.Test.YtaogilpkeeigoaaDoorRows
import GoSem.ClaimSeven
namespace Go.Proofs.YtaogilpkeeigoaaDoor
namespace Rows

/-- THE TIED CARD OF 'seneschalkeep.JsonAgain'. -/
def jsonAgainCard : Claim7 := { stood := { row := jsonAgainRow, standIns := [], harness := (true, "cfe8f35bf3b6278c284ec3c1a3495f6fb31e8dfca0d5cade4c858c9326ea43f1"), looks := true }, kinds := [], alts := [], laidByText := true, laidKinds := [.data, .data, .data, .sentinel, .sentinel], laidTests := true, laidLooks := .later }
def JsonAgainCardSaid : Prop := Claim7.holds Tryd.pinned (.plain (OpenSpec.ofChange jsonAgainSpec)) jsonAgainCard

/-- THE TIED CARD OF 'seneschalkeep.JsonWraps'. -/
def jsonWrapsCard : Claim7 := { stood := { row := jsonWrapsRow, standIns := [], harness := (true, "cfe8f35bf3b6278c284ec3c1a3495f6fb31e8dfca0d5cade4c858c9326ea43f1"), looks := true }, kinds := [], alts := [], laidByText := true, laidKinds := [.data, .data, .data, .sentinel, .sentinel], laidTests := true, laidLooks := .later }
def JsonWrapsCardSaid : Prop := Claim7.holds Tryd.pinned (.plain (OpenSpec.ofChange jsonWrapsSpec)) jsonWrapsCard

/-- THE TIED CARD OF 'seneschalkeep.JsonQuotes'. -/
def jsonQuotesCard : Claim7 := { stood := { row := jsonQuotesRow, standIns := [], harness := (true, "cfe8f35bf3b6278c284ec3c1a3495f6fb31e8dfca0d5cade4c858c9326ea43f1"), looks := true }, kinds := [], alts := [], laidByText := true, laidKinds := [.data, .data, .data, .sentinel, .sentinel], laidTests := true, laidLooks := .later }
def JsonQuotesCardSaid : Prop := Claim7.holds Tryd.pinned (.plain (OpenSpec.ofChange jsonQuotesSpec)) jsonQuotesCard

/-- THE SECOND FORM's CARD OF 'seneschalkeep.JsonAgain'. -/
def jsonAgainUptoCard : Claim7 := { stood := { row := jsonAgainUptoRow, standIns := [], harness := (true, "cfe8f35bf3b6278c284ec3c1a3495f6fb31e8dfca0d5cade4c858c9326ea43f1"), looks := true }, kinds := [], alts := [], laidByText := true, laidKinds := [.data, .data, .data, .sentinel, .sentinel], laidTests := true, laidLooks := .later }
def JsonAgainUptoCardSaid : Prop := Claim7.holds Tryd.pinned (.plain (OpenSpec.upto jsonAgainSpec)) jsonAgainUptoCard

/-- THE SECOND FORM's CARD OF 'seneschalkeep.JsonWraps'. -/
def jsonWrapsUptoCard : Claim7 := { stood := { row := jsonWrapsUptoRow, standIns := [], harness := (true, "cfe8f35bf3b6278c284ec3c1a3495f6fb31e8dfca0d5cade4c858c9326ea43f1"), looks := true }, kinds := [], alts := [], laidByText := true, laidKinds := [.data, .data, .data, .sentinel, .sentinel], laidTests := true, laidLooks := .later }
def JsonWrapsUptoCardSaid : Prop := Claim7.holds Tryd.pinned (.plain (OpenSpec.upto jsonWrapsSpec)) jsonWrapsUptoCard

/-- THE SECOND FORM's CARD OF 'seneschalkeep.JsonQuotes'. -/
def jsonQuotesUptoCard : Claim7 := { stood := { row := jsonQuotesUptoRow, standIns := [], harness := (true, "cfe8f35bf3b6278c284ec3c1a3495f6fb31e8dfca0d5cade4c858c9326ea43f1"), looks := true }, kinds := [], alts := [], laidByText := true, laidKinds := [.data, .data, .data, .sentinel, .sentinel], laidTests := true, laidLooks := .later }
def JsonQuotesUptoCardSaid : Prop := Claim7.holds Tryd.pinned (.plain (OpenSpec.upto jsonQuotesSpec)) jsonQuotesUptoCard
end Rows
end Go.Proofs.YtaogilpkeeigoaaDoor
