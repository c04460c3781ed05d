/- Contracts of package name's faces over this translation: Check, CheckVal, Join. -/
import Derived.Test.YtgaopmdpcjcooaaGreatDoorCalls
namespace Go.Proofs.YtgaopmdpcjcooaaGreatDoor
open Go.RowKit
set_option maxHeartbeats 400000 in
theorem isVal_any (s : ByteArray) (w : World) (hs : s.size ≤ maxLen) : Calls Tryz.prog 83 #[.string s] w fun e w' => e = .returned (.bool (valB s)) ∧ w' = w := by
  by_cases h : s.size = 0
  · rw [toList_empty_eq h]
    go_enter Tryz.func83, Tryz.ntmps83
    go_wp2_with fail
    go_ret
    exact ⟨rfl, rfl⟩
  · have hv : valB s = lastB s := by simp [valB, h]
    have hb := size_cons_ne h
    rw [hv]
    clear hv
    go_enter Tryz.func83, Tryz.ntmps83
    go_wp2_with (go_at_call 102; refine (isLast_any _ _ hs).mono ?_; rintro e w' ⟨rfl, rfl⟩)
    go_ret
    exact ⟨rfl, rfl⟩
set_option maxHeartbeats 400000 in
theorem judge_val (s : ByteArray) (w : World) (hs : s.size ≤ maxLen) : Calls Tryz.prog 81 #[.string s, .int .i64 63, .func (.func 83) #[] #[]] w fun e w' => e = .returned (.int .i64 (valI s)) ∧ w' = w := by
  have hs' := hs
  unfold maxLen at hs'
  by_cases h1 : (63 : Int) < s.size
  · go_enter Tryz.func81, Tryz.ntmps81
    go_wp2_with fail
    go_ret
    exact ⟨ret_int (valI_large h1).symm, rfl⟩
  · cases h2 : valB s with
    | true =>
      go_enter Tryz.func81, Tryz.ntmps81
      go_wp2_with (go_at_call 83; refine (isVal_any _ _ hs).mono ?_; rintro e w' ⟨rfl, rfl⟩)
      go_ret
      exact ⟨ret_int (valI_ok (by omega) h2).symm, rfl⟩
    | false =>
      go_enter Tryz.func81, Tryz.ntmps81
      go_wp2_with (go_at_call 83; refine (isVal_any _ _ hs).mono ?_; rintro e w' ⟨rfl, rfl⟩)
      go_ret
      exact ⟨ret_int (valI_bad (by omega) h2).symm, rfl⟩
set_option maxHeartbeats 400000 in
theorem val_any (s : ByteArray) (w : World) (hs : s.size ≤ maxLen) : Calls Tryz.prog 60 #[.string s] w fun e w' => e = .returned (.int .i64 (valI s)) ∧ w' = w := by
  go_enter Tryz.func60, Tryz.ntmps60
  go_wp2_with (go_at_call 81; refine (judge_val _ _ hs).mono ?_; rintro e w' ⟨rfl, rfl⟩)
  go_ret
  exact ⟨rfl, rfl⟩
end Go.Proofs.YtgaopmdpcjcooaaGreatDoor
