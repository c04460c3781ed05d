/-
  DERIVED. GIVEN WITH THE SEED: THE CARDS: each row of YtkeganpaiaebfaaDoorRows.lean that lists a variable, with what it lists TIED to the program's text (the seventh form; the later family's looks); each row that meets fmt, with fmt's text TOLD by the authors' own Lean function (tested against real Go, not proved from fmt's source: count such statements apart). THE CARD IS WHAT COUNTS. Prove the row's statement (the work); the ties are given (YtkeganpaiaebfaaDoorTie.lean); close each card by the builder's one call (the guide's Derived/Test/ToyasCard.lean, 'card_holds'). Laid BY PROGRAM, IN A SANDBOX (cutbox-door.mjs). By AI agents, Wed Nov 11 2026. No macro, syntax, notation, axiom, sorry.
-/
import Derived.Test.YtkeganpaiaebfaaDoorRows
import GoSem.ClaimSeven
namespace Go.Proofs.YtkeganpaiaebfaaDoor
namespace Rows

/-- THE TIED CARD OF 'seneschallaw.SealSays'. -/
def sealSaysCard : Claim7 := { stood := { row := sealSaysRow, standIns := [], harness := (true, "0f92fd63f5ab6d68850d2e798a8f999782595b25f309800f5f1bfd6c46319f55"), looks := false }, kinds := [], alts := [], laidByText := true, laidKinds := [.data], laidTests := true, laidLooks := .later }
def SealSaysCardSaid : Prop := Claim7.holds Tryd.pinned (.plain (OpenSpec.ofChange sealSaysSpec)) sealSaysCard

/-- THE TIED CARD OF 'seneschalkeep.SealKnown'. -/
def sealKnownCard : Claim7 := { stood := { row := sealKnownRow, standIns := [], harness := (true, "0f92fd63f5ab6d68850d2e798a8f999782595b25f309800f5f1bfd6c46319f55"), looks := false }, kinds := [], alts := [], laidByText := true, laidKinds := [.data], laidTests := true, laidLooks := .later }
def SealKnownCardSaid : Prop := Claim7.holds Tryd.pinned (.plain (OpenSpec.ofChange sealKnownSpec)) sealKnownCard

/-- THE TIED CARD OF 'seneschalkeep.SealPieces'. -/
def sealPiecesCard : Claim7 := { stood := { row := sealPiecesRow, standIns := [], harness := (true, "0f92fd63f5ab6d68850d2e798a8f999782595b25f309800f5f1bfd6c46319f55"), looks := false }, kinds := [], alts := [], laidByText := true, laidKinds := [.data], laidTests := true, laidLooks := .later }
def SealPiecesCardSaid : Prop := Claim7.holds Tryd.pinned (.plain (OpenSpec.ofChange sealPiecesSpec)) sealPiecesCard

/-- THE TIED CARD OF 'seneschalkeep.SealLong'. -/
def sealLongCard : Claim7 := { stood := { row := sealLongRow, standIns := [], harness := (true, "0f92fd63f5ab6d68850d2e798a8f999782595b25f309800f5f1bfd6c46319f55"), looks := false }, kinds := [], alts := [], laidByText := true, laidKinds := [.data], laidTests := true, laidLooks := .later }
def SealLongCardSaid : Prop := Claim7.holds Tryd.pinned (.plain (OpenSpec.ofChange sealLongSpec)) sealLongCard

/-- THE SECOND FORM's CARD OF 'seneschallaw.SealSays'. -/
def sealSaysUptoCard : Claim7 := { stood := { row := sealSaysUptoRow, standIns := [], harness := (true, "0f92fd63f5ab6d68850d2e798a8f999782595b25f309800f5f1bfd6c46319f55"), looks := false }, kinds := [], alts := [], laidByText := true, laidKinds := [.data], laidTests := true, laidLooks := .later }
def SealSaysUptoCardSaid : Prop := Claim7.holds Tryd.pinned (.plain (OpenSpec.upto sealSaysSpec)) sealSaysUptoCard

/-- THE SECOND FORM's CARD OF 'seneschalkeep.SealKnown'. -/
def sealKnownUptoCard : Claim7 := { stood := { row := sealKnownUptoRow, standIns := [], harness := (true, "0f92fd63f5ab6d68850d2e798a8f999782595b25f309800f5f1bfd6c46319f55"), looks := false }, kinds := [], alts := [], laidByText := true, laidKinds := [.data], laidTests := true, laidLooks := .later }
def SealKnownUptoCardSaid : Prop := Claim7.holds Tryd.pinned (.plain (OpenSpec.upto sealKnownSpec)) sealKnownUptoCard

/-- THE SECOND FORM's CARD OF 'seneschalkeep.SealPieces'. -/
def sealPiecesUptoCard : Claim7 := { stood := { row := sealPiecesUptoRow, standIns := [], harness := (true, "0f92fd63f5ab6d68850d2e798a8f999782595b25f309800f5f1bfd6c46319f55"), looks := false }, kinds := [], alts := [], laidByText := true, laidKinds := [.data], laidTests := true, laidLooks := .later }
def SealPiecesUptoCardSaid : Prop := Claim7.holds Tryd.pinned (.plain (OpenSpec.upto sealPiecesSpec)) sealPiecesUptoCard

/-- THE SECOND FORM's CARD OF 'seneschalkeep.SealLong'. -/
def sealLongUptoCard : Claim7 := { stood := { row := sealLongUptoRow, standIns := [], harness := (true, "0f92fd63f5ab6d68850d2e798a8f999782595b25f309800f5f1bfd6c46319f55"), looks := false }, kinds := [], alts := [], laidByText := true, laidKinds := [.data], laidTests := true, laidLooks := .later }
def SealLongUptoCardSaid : Prop := Claim7.holds Tryd.pinned (.plain (OpenSpec.upto sealLongSpec)) sealLongUptoCard
end Rows
end Go.Proofs.YtkeganpaiaebfaaDoor
