/-
  DERIVED. GIVEN WITH THE SEED: THE CARDS: each row of YtglmffplnglkdabDoorRows.lean that lists a variable, with what it lists TIED to the program's text (the seventh form; the later family's looks); each row that meets fmt, with fmt's text TOLD by the authors' own Lean function (tested against real Go, not proved from fmt's source: count such statements apart). THE CARD IS WHAT COUNTS. Prove the row's statement (the work); the ties are given (YtglmffplnglkdabDoorTie.lean); close each card by the builder's one call (the guide's Derived/Test/ToyasCard.lean, 'card_holds'). Laid BY PROGRAM, IN A SANDBOX (cutbox-door.mjs). By AI agents, Wed Nov 11 2026. No macro, syntax, notation, axiom, sorry.
-/
import Derived.Test.YtglmffplnglkdabDoorRows
import GoSem.ClaimSeven
namespace Go.Proofs.YtglmffplnglkdabDoor
namespace Rows

/-- THE TIED CARD OF 'seneschalkeep.QueryNot'. -/
def queryNotCard : Claim7 := { stood := { row := queryNotRow, standIns := [], harness := (true, "ff9058034da22182c06c17dbe61d036cdfb3d619c26fc2c631103dcaf8e24d05"), looks := false }, kinds := [], alts := [], laidByText := true, laidKinds := [.data, .pinned], laidTests := true, laidLooks := .later }
def QueryNotCardSaid : Prop := Claim7.holds Tryd.pinned (.plain (OpenSpec.ofChange queryNotSpec)) queryNotCard

/-- THE TIED CARD OF 'seneschalkeep.QuerySound'. -/
def querySoundCard : Claim7 := { stood := { row := querySoundRow, standIns := [], harness := (true, "ff9058034da22182c06c17dbe61d036cdfb3d619c26fc2c631103dcaf8e24d05"), looks := false }, kinds := [], alts := [], laidByText := true, laidKinds := [.data, .data, .data, .data, .pinned], laidTests := true, laidLooks := .later }
def QuerySoundCardSaid : Prop := Claim7.holds Tryd.pinned (.plain (OpenSpec.ofChange querySoundSpec)) querySoundCard

/-- THE TIED CARD OF 'seneschalkeep.QueryImplied'. -/
def queryImpliedCard : Claim7 := { stood := { row := queryImpliedRow, standIns := [], harness := (true, "ff9058034da22182c06c17dbe61d036cdfb3d619c26fc2c631103dcaf8e24d05"), looks := false }, kinds := [], alts := [], laidByText := true, laidKinds := [.data, .data, .data, .data, .pinned], laidTests := true, laidLooks := .later }
def QueryImpliedCardSaid : Prop := Claim7.holds Tryd.pinned (.plain (OpenSpec.ofChange queryImpliedSpec)) queryImpliedCard

/-- THE TIED CARD OF 'seneschalkeep.QueryRow'. -/
def queryRowCard : Claim7 := { stood := { row := queryRowRow, standIns := [], harness := (true, "ff9058034da22182c06c17dbe61d036cdfb3d619c26fc2c631103dcaf8e24d05"), looks := false }, kinds := [], alts := [], laidByText := true, laidKinds := [.data, .data, .data, .data, .pinned], laidTests := true, laidLooks := .later }
def QueryRowCardSaid : Prop := Claim7.holds Tryd.pinned (.plain (OpenSpec.ofChange queryRowSpec)) queryRowCard

/-- THE SECOND FORM's CARD OF 'seneschalkeep.QueryNot'. -/
def queryNotUptoCard : Claim7 := { stood := { row := queryNotUptoRow, standIns := [], harness := (true, "ff9058034da22182c06c17dbe61d036cdfb3d619c26fc2c631103dcaf8e24d05"), looks := false }, kinds := [], alts := [], laidByText := true, laidKinds := [.data, .pinned], laidTests := true, laidLooks := .later }
def QueryNotUptoCardSaid : Prop := Claim7.holds Tryd.pinned (.plain (OpenSpec.upto queryNotSpec)) queryNotUptoCard

/-- THE SECOND FORM's CARD OF 'seneschalkeep.QuerySound'. -/
def querySoundUptoCard : Claim7 := { stood := { row := querySoundUptoRow, standIns := [], harness := (true, "ff9058034da22182c06c17dbe61d036cdfb3d619c26fc2c631103dcaf8e24d05"), looks := false }, kinds := [], alts := [], laidByText := true, laidKinds := [.data, .data, .data, .data, .pinned], laidTests := true, laidLooks := .later }
def QuerySoundUptoCardSaid : Prop := Claim7.holds Tryd.pinned (.plain (OpenSpec.upto querySoundSpec)) querySoundUptoCard

/-- THE SECOND FORM's CARD OF 'seneschalkeep.QueryImplied'. -/
def queryImpliedUptoCard : Claim7 := { stood := { row := queryImpliedUptoRow, standIns := [], harness := (true, "ff9058034da22182c06c17dbe61d036cdfb3d619c26fc2c631103dcaf8e24d05"), looks := false }, kinds := [], alts := [], laidByText := true, laidKinds := [.data, .data, .data, .data, .pinned], laidTests := true, laidLooks := .later }
def QueryImpliedUptoCardSaid : Prop := Claim7.holds Tryd.pinned (.plain (OpenSpec.upto queryImpliedSpec)) queryImpliedUptoCard

/-- THE SECOND FORM's CARD OF 'seneschalkeep.QueryRow'. -/
def queryRowUptoCard : Claim7 := { stood := { row := queryRowUptoRow, standIns := [], harness := (true, "ff9058034da22182c06c17dbe61d036cdfb3d619c26fc2c631103dcaf8e24d05"), looks := false }, kinds := [], alts := [], laidByText := true, laidKinds := [.data, .data, .data, .data, .pinned], laidTests := true, laidLooks := .later }
def QueryRowUptoCardSaid : Prop := Claim7.holds Tryd.pinned (.plain (OpenSpec.upto queryRowSpec)) queryRowUptoCard
end Rows
end Go.Proofs.YtglmffplnglkdabDoor
