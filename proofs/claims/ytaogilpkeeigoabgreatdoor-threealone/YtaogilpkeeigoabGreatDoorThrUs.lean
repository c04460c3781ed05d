/- Contract over this translation: what three documents have under a name. -/
import Derived.Test.YtaogilpkeeigoabGreatDoorThrBox
import Derived.Deep.RegionHeld3
namespace Go.Proofs.YtaogilpkeeigoabGreatDoor
open Go.RowKit
set_option linter.unusedVariables false
set_option linter.unusedSimpArgs false
/-- from the call on: the three in their box, the answer's box still empty -/
def PSt (w w' : World) (va vb vc : Value) : Prop := Below w.heap.size w w' ∧ Box3 w' w.heap.size va vb vc ∧ Box3 w' (w.heap.size + 1) .nilIface .nilIface .nilIface
theorem pst_cells {w w' : World} {va vb vc : Value} (h : PSt w w' va vb vc) : w'.cell? ⟨w.heap.size, 0, none⟩ = some va ∧ w'.cell? ⟨w.heap.size, 1, none⟩ = some vb ∧ w'.cell? ⟨w.heap.size, 2, none⟩ = some vc := ⟨h.2.1.c0, h.2.1.c1, h.2.1.c2⟩
end Go.Proofs.YtaogilpkeeigoabGreatDoor
