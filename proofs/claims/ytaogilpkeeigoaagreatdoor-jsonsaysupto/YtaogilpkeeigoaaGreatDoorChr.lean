/- Contract over this translation of the reference's chr: the text of one byte. -/
import Derived.Test.YtaogilpkeeigoaaGreatDoorOwnPlain
import Derived.WalkKit
import Derived.WalkSpells
namespace Go.Proofs.YtaogilpkeeigoaaGreatDoor
open Go.RowKit
set_option linter.unusedVariables false
set_option linter.unusedSimpArgs false
set_option maxRecDepth 100000 in
set_option maxHeartbeats 400000 in
theorem chr_any (c : UInt8) (w : World) :
    Calls Tryz.prog 35 #[.int .i64 c.toNat] w fun e w' => e = .returned (.string ⟨#[c]⟩) ∧ Below w.heap.size w w' := by
  have hm : ((c.toNat : Int) % 256) = (c.toNat : Int) := Int.emod_eq_of_lt (by omega) (by have := c.toNat_lt; omega)
  have hconv : (convert 99 9 (.slice (some ⟨w.heap.size, 0, none⟩) 1 1)).run Tryz.prog (w.alloc (.cells #[.int .u8 ((c.toNat : Int) % 256)] 5)) = .ok (.string ⟨#[c]⟩) (w.alloc (.cells #[.int .u8 ((c.toNat : Int) % 256)] 5)) := by
    have h := run_convert_bytes_arg (P := Tryz.prog) (w.alloc (.cells #[.int .u8 ((c.toNat : Int) % 256)] 5)) 99 5 Tryz.underlying99 Tryz.underlying5 w.heap.size 0 1 1 [(c.toNat : Int)] rfl (by
      intro i hi
      have e : i = 0 := by omega
      subst e
      rw [cell_of_row _ _ _ _ _ _ (heap_alloc_new w _), hm]
      rfl) 9 Tryz.underlying9
    have e : strOfNums ([c].map fun c => (c.toNat : Int)) = ⟨[c].toArray⟩ := strOf_bytes [c]
    have e2 : strOfNums [(c.toNat : Int)] = ⟨#[c]⟩ := e
    rw [e2] at h
    exact h
  clear hm
  go_enter Tryz.func35, Tryz.ntmps35
  go_wp2_with fail
  go_ret
  exact ⟨rfl, (Below.refl _ _).alloc (Nat.le_refl _) _⟩
end Go.Proofs.YtaogilpkeeigoaaGreatDoor
