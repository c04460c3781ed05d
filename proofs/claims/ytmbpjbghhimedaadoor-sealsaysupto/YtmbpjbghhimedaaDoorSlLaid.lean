/- The table of cube roots out of what is laid. -/
import Derived.Test.YtmbpjbghhimedaaDoorSlMix
import Derived.Lib.LaidTab
import Derived.MakeChecks
namespace Go.Proofs.YtmbpjbghhimedaaDoor
open Go.RowKit
set_option linter.unusedVariables false
set_option linter.unusedSimpArgs false
theorem kTab_len : kTab.length = 64 := by decide +kernel
theorem cub_of_laid {W : World} (hn : ([(("seneschal/seal.cubeRoots", Lib.tabData .u32 (kTab.map fun x : Nat => (x : Int))) : String × DataW Unit)].all fun x => x.2.handleName?.isNone) = true)
    (h : laidMetH Tryd.prog [("seneschal/seal.cubeRoots", Lib.tabData .u32 (kTab.map fun x : Nat => (x : Int)))] W) : Cub W := by
  rw [Go.MakeChecks.laidMetH_plain _ _ _ hn] at h
  have ht := Lib.tabIs_of_head (P := Tryd.prog) (g := 1) (t := 49) (e := 45) (n := 64) (by kernel_rfl) (by kernel_rfl) Tryd.underlying49 Tryd.underlying45 (by kernel_rfl) (by kernel_rfl) h
  have hc : ∀ i, i < 64 → W.cell? ⟨1, i, none⟩ = some (.int .u32 (kTab.getD i 0 : Nat)) := fun i hi => by
    have h1 := ht.cell (g := 1) (by kernel_rfl) i (by rw [List.length_map, kTab_len]; exact hi)
    rw [h1]
    congr 2
    rw [List.getD_eq_getElem?_getD, List.getElem?_map, List.getD_eq_getElem?_getD]
    rw [List.getElem?_eq_getElem (by rw [kTab_len]; exact hi)]
    rfl
  exact ⟨block_lt_of_cell (hc 0 (by decide)), hc⟩
end Go.Proofs.YtmbpjbghhimedaaDoor
