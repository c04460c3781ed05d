/- Contract over this translation of name.Check. -/
import Derived.Test.YtnjjlnhchfoigabDoorSlBase
import Derived.Test.YtnjjlnhchfoigabDoorWord
namespace Go.Proofs.YtnjjlnhchfoigabDoor
open Go.RowKit
set_option maxHeartbeats 400000 in
theorem small_any (n : Int) (w : World) : Calls Tryd.prog 75 #[.int .u8 n] w fun e w' => e = .returned (.bool (small n)) ∧ w' = w := by
  go_enter Tryd.func75, Tryd.ntmps75
  go_wp2
  all_goals go_ret
  all_goals exact ⟨by simp [small, *] <;> omega, rfl⟩
set_option maxHeartbeats 2000000 in
theorem word_small (s : ByteArray) (w : World) (hs : s.size ≤ maxLen) : Calls Tryd.prog 74 #[.string s, .func (.func 75) #[] #[], .string { data := #[45] }] w fun e w' => e = .returned (.bool (wordB small { data := #[45] } s)) ∧ w' = w := by
  unfold maxLen at hs
  by_cases h1 : (s.size : Int) < 1
  · go_enter Tryd.func74, Tryd.ntmps74
    go_wp2_with fail
    go_ret
    exact ⟨by rw [word_f1 h1]; rfl, rfl⟩
  by_cases h2 : (63 : Int) < s.size
  · go_enter Tryd.func74, Tryd.ntmps74
    go_wp2_with fail
    go_ret
    exact ⟨by rw [word_f2 h2]; rfl, rfl⟩
  have h0 : 0 < s.size := by omega
  have hl : s.size - 1 < s.size := by omega
  cases h3 : small (s[0].toNat : Int) with
  | false =>
    go_enter Tryd.func74, Tryd.ntmps74
    go_wp2_with (go_at_call 75; refine (small_any _ _).mono ?_; rintro e w' ⟨rfl, rfl⟩)
    go_ret
    exact ⟨by rw [word_f3 h0 h3]; rfl, rfl⟩
  | true =>
    cases h4 : small (s[s.size - 1].toNat : Int) with
    | false =>
      go_enter Tryd.func74, Tryd.ntmps74
      go_wp2_with (go_at_call 75; refine (small_any _ _).mono ?_; rintro e w' ⟨rfl, rfl⟩)
      go_ret
      exact ⟨by rw [word_f4 hl h4]; rfl, rfl⟩
    | true =>
      go_enter Tryd.func74, Tryd.ntmps74
      go_wp2_with (go_at_call 75; refine (small_any _ _).mono ?_; rintro e w' ⟨rfl, rfl⟩)
      go_loop [8] (fun i => ∃ k : Nat, k ≤ s.size ∧ i = .int .i64 k ∧ ∀ j, j < k → okB small { data := #[45] } (byteI s j) = true) (fun i => s.size - (intOf i).toNat)
      case atStart => exact ⟨0, Nat.zero_le _, rfl, fun j hj => absurd hj (Nat.not_lt_zero _)⟩
      case round =>
        obtain ⟨k, hk, rfl, hall⟩ := hrel
        have HA : Hid (∀ j, j < k → okB small { data := #[45] } (byteI s j) = true) := hall
        clear hall
        by_cases hlt : k < s.size
        · cases hc : small (s[k].toNat : Int) with
          | true =>
            go_wp2_with (go_at_call 75; refine (small_any _ _).mono ?_; rintro e w' ⟨rfl, rfl⟩)
            go_round
            case rel => exact ⟨k + 1, by omega, by go_num, fun j hj => by
              rcases Nat.lt_succ_iff_lt_or_eq.mp hj with hj | rfl
              · exact HA.out j hj
              · exact okB_plain hlt hc⟩
            case measure => simp [intOf]; omega
          | false =>
            by_cases hi : firstIdx { data := #[45] } s[k] < 0
            · go_wp2_with (first | (go_at_call 75; refine (small_any _ _).mono ?_; rintro e w' ⟨rfl, rfl⟩) | (go_at_call 81; refine (index_any _ _ _).mono ?_; rintro e w' ⟨rfl, rfl⟩))
              go_ret
              exact ⟨by rw [word_f5 hlt hc hi]; rfl, rfl⟩
            · go_wp2_with (first | (go_at_call 75; refine (small_any _ _).mono ?_; rintro e w' ⟨rfl, rfl⟩) | (go_at_call 81; refine (index_any _ _ _).mono ?_; rintro e w' ⟨rfl, rfl⟩))
              go_round
              case rel => exact ⟨k + 1, by omega, by go_num, fun j hj => by
                rcases Nat.lt_succ_iff_lt_or_eq.mp hj with hj | rfl
                · exact HA.out j hj
                · exact okB_sign hlt (by omega)⟩
              case measure => simp [intOf]; omega
        · have hkk : k = s.size := by omega
          have HK : Hid (k = s.size) := hkk
          clear hkk
          go_wp2_with fail
          go_ret
          exact ⟨by rw [word_t (by omega) (by omega) h0 h3 hl h4 (by rw [← HK.out]; exact HA.out)]; rfl, rfl⟩
set_option maxHeartbeats 400000 in
theorem isName_any (s : ByteArray) (w : World) (hs : s.size ≤ maxLen) : Calls Tryd.prog 68 #[.string s] w fun e w' => e = .returned (.bool (nameB s)) ∧ w' = w := by
  go_enter Tryd.func68, Tryd.ntmps68
  go_wp2_with (go_at_call 74; refine (word_small _ _ hs).mono ?_; rintro e w' ⟨rfl, rfl⟩)
  go_ret
  exact ⟨rfl, rfl⟩
set_option maxHeartbeats 400000 in
theorem judge_name (s : ByteArray) (w : World) (hs : s.size ≤ maxLen) : Calls Tryd.prog 67 #[.string s, .int .i64 63, .func (.func 68) #[] #[]] w fun e w' => e = .returned (.int .i64 (checkI s)) ∧ w' = w := by
  have hs' := hs
  unfold maxLen at hs'
  by_cases h1 : (63 : Int) < s.size
  · go_enter Tryd.func67, Tryd.ntmps67
    go_wp2_with fail
    go_ret
    exact ⟨ret_int (checkI_large h1).symm, rfl⟩
  · cases h2 : nameB s with
    | true =>
      go_enter Tryd.func67, Tryd.ntmps67
      go_wp2_with (go_at_call 68; refine (isName_any _ _ hs).mono ?_; rintro e w' ⟨rfl, rfl⟩)
      go_ret
      exact ⟨ret_int (checkI_ok (by omega) h2).symm, rfl⟩
    | false =>
      go_enter Tryd.func67, Tryd.ntmps67
      go_wp2_with (go_at_call 68; refine (isName_any _ _ hs).mono ?_; rintro e w' ⟨rfl, rfl⟩)
      go_ret
      exact ⟨ret_int (checkI_bad (by omega) h2).symm, rfl⟩
set_option maxHeartbeats 400000 in
theorem check_any (s : ByteArray) (w : World) (hs : s.size ≤ maxLen) : Calls Tryd.prog 53 #[.string s] w fun e w' => e = .returned (.int .i64 (checkI s)) ∧ w' = w := by
  go_enter Tryd.func53, Tryd.ntmps53
  go_wp2_with (go_at_call 67; refine (judge_name _ _ hs).mono ?_; rintro e w' ⟨rfl, rfl⟩)
  go_ret
  exact ⟨rfl, rfl⟩
end Go.Proofs.YtnjjlnhchfoigabDoor
