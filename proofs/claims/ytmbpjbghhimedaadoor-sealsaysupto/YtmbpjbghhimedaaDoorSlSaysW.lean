/- Walk over this translation: Sum, Mac, Hex and Unhex answer as the document's do. -/
import Derived.Test.YtmbpjbghhimedaaDoorSlRfMacL
import Derived.Test.YtmbpjbghhimedaaDoorSlRfUnhex
namespace Go.Proofs.YtmbpjbghhimedaaDoor
open Go.RowKit
set_option linter.unusedVariables false
set_option linter.unusedSimpArgs false
theorem unhexA_form (s : Bs) : ∃ (x : ByteArray) (n : Int), unhexA s = .tuple #[.string x, .int .i64 n] := by
  unfold unhexA
  split
  · exact ⟨_, _, rfl⟩
  · exact ⟨_, _, rfl⟩
set_option maxRecDepth 100000 in
set_option maxHeartbeats 4000000 in
theorem says_walk (key s : Bs) (w : World) (hk : key.length ≤ 1048576) (hs : s.length ≤ 1048576) (hc : Cub w) :
    Calls Tryd.prog 3 #[.string (Ba key), .string (Ba s)] w fun e w' => e = .returned (.bool true) ∧ Below w.heap.size w w' := by
  obtain ⟨x, n, hxn⟩ := unhexA_form s
  have HU1 : Hid (∀ w, Calls Tryd.prog 4 #[.string (Ba s)] w fun e w' => e = .returned (.tuple #[.string x, .int .i64 n]) ∧ Below w.heap.size w w') := fun w => by
    have h := unhex_any s w (by omega)
    rw [hxn] at h
    exact h
  have HU2 : Hid (∀ w, Calls Tryd.prog 5 #[.string (Ba s)] w fun e w' => e = .returned (.tuple #[.string x, .int .i64 n]) ∧ Below w.heap.size w w') := fun w => by
    have h := refunhex_any s w (by omega)
    rw [hxn] at h
    exact h
  have HS1 : Hid (∀ w, Cub w → Calls Tryd.prog 6 #[.string (Ba s)] w fun e w' => e = .returned (.string (Ba (sumP s))) ∧ Below w.heap.size w w') := fun w hc => sum_any s w (by unfold maxLen; omega) hc
  have HS2 : Hid (∀ w, Calls Tryd.prog 7 #[.string (Ba s)] w fun e w' => e = .returned (.string (Ba (sumP s))) ∧ Below w.heap.size w w') := fun w => refsum_any s w (by omega)
  have HM1 : Hid (∀ w, Cub w → Calls Tryd.prog 8 #[.string (Ba key), .string (Ba s)] w fun e w' => e = .returned (.string (Ba (macP key s))) ∧ Below w.heap.size w w') := fun w hc => mac_any key s w (by unfold maxLen; omega) (by unfold maxLen; omega) hc
  have HM2 : Hid (∀ w, Calls Tryd.prog 9 #[.string (Ba key), .string (Ba s)] w fun e w' => e = .returned (.string (Ba (macP key s))) ∧ Below w.heap.size w w') := fun w => refmac_any key s w (by omega) (by omega)
  have HH1 : Hid (∀ w, Calls Tryd.prog 10 #[.string (Ba s)] w fun e w' => e = .returned (.string (Ba (hexP s))) ∧ Below w.heap.size w w') := fun w => hex_any s w (by omega)
  have HH2 : Hid (∀ w, Calls Tryd.prog 11 #[.string (Ba s)] w fun e w' => e = .returned (.string (Ba (hexP s))) ∧ Below w.heap.size w w') := fun w => refhex_any s w (by omega)
  have HC : Hid (Cub w) := hc
  clear hxn hc
  generalize Ba (sumP s) = y1 at *
  generalize Ba (macP key s) = y2 at *
  generalize Ba (hexP s) = y3 at *
  generalize Ba s = z1 at *
  generalize Ba key = z2 at *
  go_enter Tryd.func3, Tryd.ntmps3
  go_wp2_with fail
  refine Calls.mono (HU1.out _) ?_
  rintro e w1 ⟨rfl, b⟩
  have B1 : Hid (Below w.heap.size w w1) := b
  clear b
  go_wp2_with fail
  refine Calls.mono (HU2.out _) ?_
  rintro e w2 ⟨rfl, b⟩
  have B2 : Hid (Below w.heap.size w w2) := B1.out.trans (b.mono B1.out.size)
  clear b B1
  go_wp2_with fail
  refine Calls.mono (HS1.out _ (HC.out.below B2.out)) ?_
  rintro e w3 ⟨rfl, b⟩
  have B3 : Hid (Below w.heap.size w w3) := B2.out.trans (b.mono B2.out.size)
  clear b B2
  go_wp2_with fail
  refine Calls.mono (HS2.out _) ?_
  rintro e w4 ⟨rfl, b⟩
  have B4 : Hid (Below w.heap.size w w4) := B3.out.trans (b.mono B3.out.size)
  clear b B3
  go_wp2_with fail
  refine Calls.mono (HM1.out _ (HC.out.below B4.out)) ?_
  rintro e w5 ⟨rfl, b⟩
  have B5 : Hid (Below w.heap.size w w5) := B4.out.trans (b.mono B4.out.size)
  clear b B4
  go_wp2_with fail
  refine Calls.mono (HM2.out _) ?_
  rintro e w6 ⟨rfl, b⟩
  have B6 : Hid (Below w.heap.size w w6) := B5.out.trans (b.mono B5.out.size)
  clear b B5
  go_wp2_with fail
  refine Calls.mono (HH1.out _) ?_
  rintro e w7 ⟨rfl, b⟩
  have B7 : Hid (Below w.heap.size w w7) := B6.out.trans (b.mono B6.out.size)
  clear b B6
  go_wp2_with fail
  refine Calls.mono (HH2.out _) ?_
  rintro e w8 ⟨rfl, b⟩
  have B8 : Hid (Below w.heap.size w w8) := B7.out.trans (b.mono B7.out.size)
  clear b B7
  go_wp2_with fail
  go_ret
  exact ⟨rfl, B8.out⟩
end Go.Proofs.YtmbpjbghhimedaaDoor
