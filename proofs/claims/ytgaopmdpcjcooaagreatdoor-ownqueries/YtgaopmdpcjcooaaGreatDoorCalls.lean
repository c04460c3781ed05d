/- Contracts of package name's small functions over this translation: which bytes, which words. -/
import Derived.Test.YtgaopmdpcjcooaaGreatDoorRows
import Derived.WalkKit
import Derived.WalkSpells
import Derived.Test.YtgaopmdpcjcooaaGreatDoorWord
namespace Go.Proofs.YtgaopmdpcjcooaaGreatDoor
open Go.RowKit
set_option maxHeartbeats 400000 in
theorem small_any (n : Int) (w : World) : Calls Tryz.prog 144 #[.int .u8 n] w fun e w' => e = .returned (.bool (small n)) ∧ w' = w := by
  go_enter Tryz.func144, Tryz.ntmps144
  go_wp2
  all_goals go_ret
  all_goals exact ⟨by simp [small, *] <;> omega, rfl⟩
theorem run_index (s : ByteArray) (n : Int) (w : World) : Sem.run Tryz.prog (callFunc 155 #[.string s, .int .u8 n]) w = .ok (.value (.int .i64 (firstIdx s n.toNat.toUInt8))) w := by
  rw [run_callFunc_extern (e := Extern.BytealgIndexByte.indexByte) Tryz.func155 (by kernel_rfl) (by kernel_rfl) (by kernel_rfl) (by kernel_rfl)]
  rw [run_indexByte_string]
  rfl
set_option maxHeartbeats 400000 in
theorem index0_any (s : ByteArray) (n : Int) (w : World) : Calls Tryz.prog 143 #[.string s, .int .u8 n] w fun e w' => e = .returned (.int .i64 (firstIdx s n.toNat.toUInt8)) ∧ w' = w := by
  have h := run_index
  go_enter Tryz.func143, Tryz.ntmps143
  go_wp2
  go_ret
  exact ⟨rfl, rfl⟩
set_option maxHeartbeats 400000 in
theorem index_any (s : ByteArray) (n : Int) (w : World) : Calls Tryz.prog 124 #[.string s, .int .u8 n] w fun e w' => e = .returned (.int .i64 (firstIdx s n.toNat.toUInt8)) ∧ w' = w := by
  go_enter Tryz.func124, Tryz.ntmps124
  go_wp2_with (go_at_call 143; refine (index0_any _ _ _).mono ?_; rintro e w' ⟨rfl, rfl⟩)
  go_ret
  exact ⟨rfl, rfl⟩
set_option maxHeartbeats 400000 in
theorem letter_any (n : Int) (w : World) : Calls Tryz.prog 128 #[.int .u8 n] w fun e w' => e = .returned (.bool (letter n)) ∧ w' = w := by
  by_cases hs : small n = true
  · go_enter Tryz.func128, Tryz.ntmps128
    go_wp2_with (go_at_call 144; refine (small_any _ _).mono ?_; rintro e w' ⟨rfl, rfl⟩)
    go_ret
    exact ⟨by simp [letter, *], rfl⟩
  · have hs' : small n = false := by simpa using hs
    clear hs
    go_enter Tryz.func128, Tryz.ntmps128
    go_wp2_with (go_at_call 144; refine (small_any _ _).mono ?_; rintro e w' ⟨rfl, rfl⟩)
    all_goals go_ret
    all_goals exact ⟨by simp [letter, *] <;> omega, rfl⟩
set_option maxHeartbeats 2000000 in
theorem word_small (s : ByteArray) (w : World) (hs : s.size ≤ maxLen) : Calls Tryz.prog 127 #[.string s, .func (.func 144) #[] #[], .string { data := #[45] }] w fun e w' => e = .returned (.bool (wordB small { data := #[45] } s)) ∧ w' = w := by
  unfold maxLen at hs
  by_cases h1 : (s.size : Int) < 1
  · go_enter Tryz.func127, Tryz.ntmps127
    go_wp2_with fail
    go_ret
    exact ⟨by rw [word_f1 h1]; rfl, rfl⟩
  by_cases h2 : (63 : Int) < s.size
  · go_enter Tryz.func127, Tryz.ntmps127
    go_wp2_with fail
    go_ret
    exact ⟨by rw [word_f2 h2]; rfl, rfl⟩
  have h0 : 0 < s.size := by omega
  have hl : s.size - 1 < s.size := by omega
  cases h3 : small (s[0].toNat : Int) with
  | false =>
    go_enter Tryz.func127, Tryz.ntmps127
    go_wp2_with (go_at_call 144; refine (small_any _ _).mono ?_; rintro e w' ⟨rfl, rfl⟩)
    go_ret
    exact ⟨by rw [word_f3 h0 h3]; rfl, rfl⟩
  | true =>
    cases h4 : small (s[s.size - 1].toNat : Int) with
    | false =>
      go_enter Tryz.func127, Tryz.ntmps127
      go_wp2_with (go_at_call 144; refine (small_any _ _).mono ?_; rintro e w' ⟨rfl, rfl⟩)
      go_ret
      exact ⟨by rw [word_f4 hl h4]; rfl, rfl⟩
    | true =>
      go_enter Tryz.func127, Tryz.ntmps127
      go_wp2_with (go_at_call 144; refine (small_any _ _).mono ?_; rintro e w' ⟨rfl, rfl⟩)
      go_loop [8] (fun i => ∃ k : Nat, k ≤ s.size ∧ i = .int .i64 k ∧ ∀ j, j < k → okB small { data := #[45] } (byteI s j) = true) (fun i => s.size - (intOf i).toNat)
      case atStart => exact ⟨0, Nat.zero_le _, rfl, fun j hj => absurd hj (Nat.not_lt_zero _)⟩
      case round =>
        obtain ⟨k, hk, rfl, hall⟩ := hrel
        have HA : Hid (∀ j, j < k → okB small { data := #[45] } (byteI s j) = true) := hall
        clear hall
        by_cases hlt : k < s.size
        · cases hc : small (s[k].toNat : Int) with
          | true =>
            go_wp2_with (go_at_call 144; refine (small_any _ _).mono ?_; rintro e w' ⟨rfl, rfl⟩)
            go_round
            case rel => exact ⟨k + 1, by omega, by go_num, fun j hj => by
              rcases Nat.lt_succ_iff_lt_or_eq.mp hj with hj | rfl
              · exact HA.out j hj
              · exact okB_plain hlt hc⟩
            case measure => simp [intOf]; omega
          | false =>
            by_cases hi : firstIdx { data := #[45] } s[k] < 0
            · go_wp2_with (first | (go_at_call 144; refine (small_any _ _).mono ?_; rintro e w' ⟨rfl, rfl⟩) | (go_at_call 124; refine (index_any _ _ _).mono ?_; rintro e w' ⟨rfl, rfl⟩))
              go_ret
              exact ⟨by rw [word_f5 hlt hc hi]; rfl, rfl⟩
            · go_wp2_with (first | (go_at_call 144; refine (small_any _ _).mono ?_; rintro e w' ⟨rfl, rfl⟩) | (go_at_call 124; refine (index_any _ _ _).mono ?_; rintro e w' ⟨rfl, rfl⟩))
              go_round
              case rel => exact ⟨k + 1, by omega, by go_num, fun j hj => by
                rcases Nat.lt_succ_iff_lt_or_eq.mp hj with hj | rfl
                · exact HA.out j hj
                · exact okB_sign hlt (by omega)⟩
              case measure => simp [intOf]; omega
        · have hkk : k = s.size := by omega
          have HK : Hid (k = s.size) := hkk
          clear hkk
          go_wp2_with fail
          go_ret
          exact ⟨by rw [word_t (by omega) (by omega) h0 h3 hl h4 (by rw [← HK.out]; exact HA.out)]; rfl, rfl⟩
set_option maxHeartbeats 2000000 in
theorem word_letter (s : ByteArray) (w : World) (hs : s.size ≤ maxLen) : Calls Tryz.prog 127 #[.string s, .func (.func 128) #[] #[], .string { data := #[45, 95, 46] }] w fun e w' => e = .returned (.bool (wordB letter { data := #[45, 95, 46] } s)) ∧ w' = w := by
  unfold maxLen at hs
  by_cases h1 : (s.size : Int) < 1
  · go_enter Tryz.func127, Tryz.ntmps127
    go_wp2_with fail
    go_ret
    exact ⟨by rw [word_f1 h1]; rfl, rfl⟩
  by_cases h2 : (63 : Int) < s.size
  · go_enter Tryz.func127, Tryz.ntmps127
    go_wp2_with fail
    go_ret
    exact ⟨by rw [word_f2 h2]; rfl, rfl⟩
  have h0 : 0 < s.size := by omega
  have hl : s.size - 1 < s.size := by omega
  cases h3 : letter (s[0].toNat : Int) with
  | false =>
    go_enter Tryz.func127, Tryz.ntmps127
    go_wp2_with (go_at_call 128; refine (letter_any _ _).mono ?_; rintro e w' ⟨rfl, rfl⟩)
    go_ret
    exact ⟨by rw [word_f3 h0 h3]; rfl, rfl⟩
  | true =>
    cases h4 : letter (s[s.size - 1].toNat : Int) with
    | false =>
      go_enter Tryz.func127, Tryz.ntmps127
      go_wp2_with (go_at_call 128; refine (letter_any _ _).mono ?_; rintro e w' ⟨rfl, rfl⟩)
      go_ret
      exact ⟨by rw [word_f4 hl h4]; rfl, rfl⟩
    | true =>
      go_enter Tryz.func127, Tryz.ntmps127
      go_wp2_with (go_at_call 128; refine (letter_any _ _).mono ?_; rintro e w' ⟨rfl, rfl⟩)
      go_loop [8] (fun i => ∃ k : Nat, k ≤ s.size ∧ i = .int .i64 k ∧ ∀ j, j < k → okB letter { data := #[45, 95, 46] } (byteI s j) = true) (fun i => s.size - (intOf i).toNat)
      case atStart => exact ⟨0, Nat.zero_le _, rfl, fun j hj => absurd hj (Nat.not_lt_zero _)⟩
      case round =>
        obtain ⟨k, hk, rfl, hall⟩ := hrel
        have HA : Hid (∀ j, j < k → okB letter { data := #[45, 95, 46] } (byteI s j) = true) := hall
        clear hall
        by_cases hlt : k < s.size
        · cases hc : letter (s[k].toNat : Int) with
          | true =>
            go_wp2_with (go_at_call 128; refine (letter_any _ _).mono ?_; rintro e w' ⟨rfl, rfl⟩)
            go_round
            case rel => exact ⟨k + 1, by omega, by go_num, fun j hj => by
              rcases Nat.lt_succ_iff_lt_or_eq.mp hj with hj | rfl
              · exact HA.out j hj
              · exact okB_plain hlt hc⟩
            case measure => simp [intOf]; omega
          | false =>
            by_cases hi : firstIdx { data := #[45, 95, 46] } s[k] < 0
            · go_wp2_with (first | (go_at_call 128; refine (letter_any _ _).mono ?_; rintro e w' ⟨rfl, rfl⟩) | (go_at_call 124; refine (index_any _ _ _).mono ?_; rintro e w' ⟨rfl, rfl⟩))
              go_ret
              exact ⟨by rw [word_f5 hlt hc hi]; rfl, rfl⟩
            · go_wp2_with (first | (go_at_call 128; refine (letter_any _ _).mono ?_; rintro e w' ⟨rfl, rfl⟩) | (go_at_call 124; refine (index_any _ _ _).mono ?_; rintro e w' ⟨rfl, rfl⟩))
              go_round
              case rel => exact ⟨k + 1, by omega, by go_num, fun j hj => by
                rcases Nat.lt_succ_iff_lt_or_eq.mp hj with hj | rfl
                · exact HA.out j hj
                · exact okB_sign hlt (by omega)⟩
              case measure => simp [intOf]; omega
        · have hkk : k = s.size := by omega
          have HK : Hid (k = s.size) := hkk
          clear hkk
          go_wp2_with fail
          go_ret
          exact ⟨by rw [word_t (by omega) (by omega) h0 h3 hl h4 (by rw [← HK.out]; exact HA.out)]; rfl, rfl⟩
set_option maxHeartbeats 400000 in
theorem isName_any (s : ByteArray) (w : World) (hs : s.size ≤ maxLen) : Calls Tryz.prog 129 #[.string s] w fun e w' => e = .returned (.bool (nameB s)) ∧ w' = w := by
  go_enter Tryz.func129, Tryz.ntmps129
  go_wp2_with (go_at_call 127; refine (word_small _ _ hs).mono ?_; rintro e w' ⟨rfl, rfl⟩)
  go_ret
  exact ⟨rfl, rfl⟩
set_option maxHeartbeats 400000 in
theorem isLast_any (s : ByteArray) (w : World) (hs : s.size ≤ maxLen) : Calls Tryz.prog 102 #[.string s] w fun e w' => e = .returned (.bool (lastB s)) ∧ w' = w := by
  go_enter Tryz.func102, Tryz.ntmps102
  go_wp2_with (go_at_call 127; refine (word_letter _ _ hs).mono ?_; rintro e w' ⟨rfl, rfl⟩)
  go_ret
  exact ⟨rfl, rfl⟩
end Go.Proofs.YtgaopmdpcjcooaaGreatDoor
