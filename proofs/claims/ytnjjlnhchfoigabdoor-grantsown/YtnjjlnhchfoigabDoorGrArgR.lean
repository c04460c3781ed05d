/- Rules that come in: how they lie in memory. -/
import Derived.Test.YtnjjlnhchfoigabDoorGrArgsD
namespace Go.Proofs.YtnjjlnhchfoigabDoor
open Go.ChangeShapes Go.WideShapes Go.ChangeAt Go.RowKit Go.Deep
set_option linter.unusedVariables false
set_option linter.unusedSimpArgs false
section
variable {H : Type} {enc : TypeId × Value → H} {W : World} {base : Nat}
set_option maxRecDepth 100000
theorem rules_arg {v : Value} {d : DataW H} {p : List MemPlace} (hval : Value.okWide Tryd.prog W .any base 29 v) (h : DataW.Trod enc Tryd.prog W 0 (fun _ => true) true 29 v d p) :
    ∃ l : List Rl, Rls W v l ∧ ∀ r ∈ l, FitR r := by
  obtain ⟨fuel, hf⟩ := h
  have hc : v.cells.toList = [v] := by
    obtain ⟨a0, len, cap, rfl⟩ := okWide_slice Tryd.underlying29 hval
    rfl
  rw [hc] at hf
  exact rules_trod hf
end
end Go.Proofs.YtnjjlnhchfoigabDoor
