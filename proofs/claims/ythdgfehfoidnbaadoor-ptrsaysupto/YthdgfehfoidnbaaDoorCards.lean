/-
  DERIVED. GIVEN WITH THE SEED: THE CARDS: each row of YthdgfehfoidnbaaDoorRows.lean that lists a variable, with what it lists TIED to the program's text (the seventh form; the later family's looks); each row that meets fmt, with fmt's text TOLD by the authors' own Lean function (tested against real Go, not proved from fmt's source: count such statements apart). THE CARD IS WHAT COUNTS. Prove the row's statement (the work); the ties are given (YthdgfehfoidnbaaDoorTie.lean); close each card by the builder's one call (the guide's Derived/Test/ToyasCard.lean, 'card_holds'). Laid BY PROGRAM, IN A SANDBOX (cutbox-door.mjs). By AI agents, Wed Nov 11 2026. No macro, syntax, notation, axiom, sorry.
-/
import Derived.Test.YthdgfehfoidnbaaDoorRows
import GoSem.ClaimSeven
namespace Go.Proofs.YthdgfehfoidnbaaDoor
namespace Rows

/-- THE TIED CARD OF 'seneschallaw.PtrSays'. -/
def ptrSaysCard : Claim7 := { stood := { row := ptrSaysRow, standIns := [], harness := (true, "ac3ccb1ebd1c2f3c17e48ea36111a7acadd5c195ff0d0adee4c4ee77f9fc81b0"), looks := false }, kinds := [], alts := [], laidByText := true, laidKinds := [.data, .pinned], laidTests := true, laidLooks := .later }
def PtrSaysCardSaid : Prop := Claim7.holds Tryd.pinned (.plain (OpenSpec.ofChange ptrSaysSpec)) ptrSaysCard

/-- THE TIED CARD OF 'seneschalkeep.PtrBack'. -/
def ptrBackCard : Claim7 := { stood := { row := ptrBackRow, standIns := [], harness := (true, "ac3ccb1ebd1c2f3c17e48ea36111a7acadd5c195ff0d0adee4c4ee77f9fc81b0"), looks := false }, kinds := [], alts := [], laidByText := true, laidKinds := [.data, .pinned], laidTests := true, laidLooks := .later }
def PtrBackCardSaid : Prop := Claim7.holds Tryd.pinned (.plain (OpenSpec.ofChange ptrBackSpec)) ptrBackCard

/-- THE SECOND FORM's CARD OF 'seneschallaw.PtrSays'. -/
def ptrSaysUptoCard : Claim7 := { stood := { row := ptrSaysUptoRow, standIns := [], harness := (true, "ac3ccb1ebd1c2f3c17e48ea36111a7acadd5c195ff0d0adee4c4ee77f9fc81b0"), looks := false }, kinds := [], alts := [], laidByText := true, laidKinds := [.data, .pinned], laidTests := true, laidLooks := .later }
def PtrSaysUptoCardSaid : Prop := Claim7.holds Tryd.pinned (.plain (OpenSpec.upto ptrSaysSpec)) ptrSaysUptoCard

/-- THE SECOND FORM's CARD OF 'seneschalkeep.PtrBack'. -/
def ptrBackUptoCard : Claim7 := { stood := { row := ptrBackUptoRow, standIns := [], harness := (true, "ac3ccb1ebd1c2f3c17e48ea36111a7acadd5c195ff0d0adee4c4ee77f9fc81b0"), looks := false }, kinds := [], alts := [], laidByText := true, laidKinds := [.data, .pinned], laidTests := true, laidLooks := .later }
def PtrBackUptoCardSaid : Prop := Claim7.holds Tryd.pinned (.plain (OpenSpec.upto ptrBackSpec)) ptrBackUptoCard
end Rows
end Go.Proofs.YthdgfehfoidnbaaDoor
