/- Contract over this translation: the function that query.allHold hands down. -/
import Derived.Test.YtgaopmdpcjcooaaGreatDoorQHolds
namespace Go.Proofs.YtgaopmdpcjcooaaGreatDoor
open Go.RowKit
set_option linter.unusedVariables false
set_option linter.unusedSimpArgs false
set_option maxHeartbeats 2000000 in
theorem allClos_any (r : Rq) (v : Value) (o : Option Bs) (cb : Nat) (w : World) (hv : Strs w v r.2.2) (hcb : cb < w.heap.size) (h0 : w.cell? ⟨cb, 0, none⟩ = some (.bool o.isSome)) (h1 : w.cell? ⟨cb, 1, none⟩ = some (.string (Ba (o.getD [])))) :
    Calls Tryz.prog 63 #[.agg #[.string (Ba r.1), .int .i64 r.2.1, v], .pointer (some ⟨cb, 0, none⟩)] w fun e w' => e = .returned (.bool (!holdsB r o)) ∧ Below w.heap.size w w' := by
  obtain ⟨key, kd, vs⟩ := r
  have hb0 : Below w.heap.size w (w.alloc (.cells #[.string (Ba key), .int .i64 kd, v] 35)) := (Below.refl _ _).alloc (Nat.le_refl _) _
  have HH : Hid (Calls Tryz.prog 49 #[.agg #[.string (Ba key), .int .i64 kd, v], .agg #[.bool o.isSome, .string (Ba (o.getD []))]] (w.alloc (.cells #[.string (Ba key), .int .i64 kd, v] 35)) fun e w' => e = .returned (.bool (holdsB (key, kd, vs) o)) ∧ Below (w.alloc (.cells #[.string (Ba key), .int .i64 kd, v] 35)).heap.size (w.alloc (.cells #[.string (Ba key), .int .i64 kd, v] 35)) w') :=
    holds_of (key, kd, vs) v o _ (hv.below hb0)
  have HB0 : Hid (Below w.heap.size w (w.alloc (.cells #[.string (Ba key), .int .i64 kd, v] 35))) := hb0
  have k0 := hb0.cell (p := ⟨cb, 0, none⟩) hcb
  have k1 := hb0.cell (p := ⟨cb, 1, none⟩) hcb
  rw [h0] at k0
  rw [h1] at k1
  have hne : ¬ cb = w.heap.size := by omega
  obtain ⟨p, c, rfl, hn⟩ := hv.form
  clear hb0 hv
  show Calls _ _ _ _ fun e w' => e = .returned (.bool (!holdsB (key, kd, vs) o)) ∧ Below w.heap.size w w'
  generalize holdsB (key, kd, vs) o = res at *
  generalize o.isSome = b1 at *
  generalize Ba (o.getD []) = b2 at *
  generalize Ba key = kk at *
  generalize vs.length = nv at *
  go_enter Tryz.func63, Tryz.ntmps63
  go_wp2_with fail
  refine Calls.mono HH.out ?_
  rintro e w1 ⟨rfl, b⟩
  have HB1 : Hid (Below w.heap.size w w1) := HB0.out.trans (b.mono HB0.out.size)
  clear b
  go_wp2_with fail
  go_ret
  exact ⟨rfl, HB1.out⟩
end Go.Proofs.YtgaopmdpcjcooaaGreatDoor
