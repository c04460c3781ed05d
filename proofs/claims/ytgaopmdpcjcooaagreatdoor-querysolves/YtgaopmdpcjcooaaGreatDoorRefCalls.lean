/- Contracts of the document's answers over this translation: named, Name, NameVal, NameJoin. -/
import Derived.Test.YtgaopmdpcjcooaaGreatDoorKeys
import Derived.Test.YtgaopmdpcjcooaaGreatDoorRefPlain
namespace Go.Proofs.YtgaopmdpcjcooaaGreatDoor
open Go.RowKit
theorem has_any (t s : ByteArray) (k : Nat) (w : World) (h : k < s.size) : Calls Tryz.prog 90 #[.string t, .string (s.extract k (k + 1))] w fun e w' => e = .returned (.bool (hasB t (byteI s k))) ∧ w' = w := by
  rw [extract_one s k h]
  exact Tryz.strings_Contains_one t (byteI s k).toNat.toUInt8 w
set_option maxHeartbeats 2000000 in
theorem named_any (s edge within : ByteArray) (w : World) (hs : s.size ≤ maxLen) : Calls Tryz.prog 70 #[.string s, .string edge, .string within] w fun e w' => e = .returned (.int .i64 (namedI edge within s)) ∧ w' = w := by
  unfold maxLen at hs
  by_cases h0 : s.size = 0
  · rw [named_e h0, toList_empty_eq h0]
    go_enter Tryz.func70, Tryz.ntmps70
    go_wp2_with fail
    go_ret
    exact ⟨rfl, rfl⟩
  have he := size_cons_ne h0
  go_enter Tryz.func70, Tryz.ntmps70
  go_wp2_with fail
  go_loop [13] (fun i => ∃ k : Nat, k ≤ s.size ∧ i = .int .i64 k ∧ ∀ j, j < k → fitB edge within s j = true) (fun i => s.size - (intOf i).toNat)
  case atStart => exact ⟨0, Nat.zero_le _, rfl, fun j hj => absurd hj (Nat.not_lt_zero _)⟩
  case round =>
    obtain ⟨k, hk, rfl, hall⟩ := hrel
    have HA : Hid (∀ j, j < k → fitB edge within s j = true) := hall
    clear hall
    by_cases hlt : k < s.size
    · have HN : Hid (fitB edge within s k = true → ∀ j, j < k + 1 → fitB edge within s j = true) := fun hf j hj => by
        rcases Nat.lt_succ_iff_lt_or_eq.mp hj with hj | rfl
        · exact HA.out j hj
        · exact hf
      cases hE : hasB edge (byteI s k) with
      | true =>
        go_wp2_with fail
        refine (has_any _ _ _ _ hlt).mono ?_; rintro e w' ⟨rfl, rfl⟩
        go_wp2_with fail
        go_round
        case rel => exact ⟨k + 1, by omega, by go_num, HN.out (by simp [fitB, hE])⟩
        case measure => simp [intOf]; omega
      | false =>
        by_cases hz : k = 0
        · have hf : fitB edge within s k = false := by simp [fitB, hz]; rw [← hz, hE]
          have HF : Hid (namedI edge within s = 6) := named_f hlt hf
          have hkz : (((k : Nat) : Int) == 0) = true := by simp [hz]
          clear hz hf
          go_wp2_with fail
          refine (has_any _ _ _ _ hlt).mono ?_; rintro e w' ⟨rfl, rfl⟩
          go_wp2_with fail
          go_ret
          exact ⟨ret_int HF.out.symm, rfl⟩
        · have hkz : (((k : Nat) : Int) == 0) = false := by simp [hz]
          by_cases hn : k + 1 = s.size
          · have hf : fitB edge within s k = false := by simp [fitB, hE, hn]
            have HF : Hid (namedI edge within s = 6) := named_f hlt hf
            have hkn : (((k : Nat) : Int) == (s.size : Int) - 1) = true := by simp; omega
            clear hz hn hf
            go_wp2_with fail
            refine (has_any _ _ _ _ hlt).mono ?_; rintro e w' ⟨rfl, rfl⟩
            go_wp2_with fail
            go_ret
            exact ⟨ret_int HF.out.symm, rfl⟩
          · have hkn : (((k : Nat) : Int) == (s.size : Int) - 1) = false := by simp; omega
            cases hS : hasB within (byteI s k) with
            | true =>
              have HF : Hid (fitB edge within s k = true) := by show fitB edge within s k = true; simp [fitB, hE, hS, hz, hn]
              clear hz hn
              go_wp2_with fail
              refine (has_any _ _ _ _ hlt).mono ?_; rintro e w' ⟨rfl, rfl⟩
              go_wp2_with fail
              refine (has_any _ _ _ _ hlt).mono ?_; rintro e w' ⟨rfl, rfl⟩
              go_wp2_with fail
              go_round
              case rel => exact ⟨k + 1, by omega, by go_num, HN.out HF.out⟩
              case measure => simp [intOf]; omega
            | false =>
              have hf : fitB edge within s k = false := by simp [fitB, hE, hS]
              have HF : Hid (namedI edge within s = 6) := named_f hlt hf
              clear hz hn hf
              go_wp2_with fail
              refine (has_any _ _ _ _ hlt).mono ?_; rintro e w' ⟨rfl, rfl⟩
              go_wp2_with fail
              refine (has_any _ _ _ _ hlt).mono ?_; rintro e w' ⟨rfl, rfl⟩
              go_wp2_with fail
              go_ret
              exact ⟨ret_int HF.out.symm, rfl⟩
    · have hkk : k = s.size := by omega
      have HT : Hid (namedI edge within s = 0) := named_t h0 (by rw [← hkk]; exact HA.out)
      clear hkk
      go_wp2_with fail
      go_ret
      exact ⟨ret_int HT.out.symm, rfl⟩
theorem named_low (s : ByteArray) (w : World) (hs : s.size ≤ 63) : Calls Tryz.prog 70 #[.string s, .string { data := #[97, 98, 99, 100, 101, 102, 103, 104, 105, 106, 107, 108, 109, 110, 111, 112, 113, 114, 115, 116, 117, 118, 119, 120, 121, 122, 48, 49, 50, 51, 52, 53, 54, 55, 56, 57] }, .string { data := #[45] }] w
    fun e w' => e = .returned (.int .i64 (checkI s)) ∧ w' = w := by
  have h := named_any s lowT { data := #[45] } w (by unfold maxLen; omega)
  have e : namedI lowT { data := #[45] } s = checkI s := by rw [named_name hs]; unfold checkI; rw [if_neg (show ¬ 63 < s.size by omega)]
  rw [e] at h
  exact h
theorem named_both (s : ByteArray) (w : World) (hs : s.size ≤ 63) : Calls Tryz.prog 70 #[.string s, .string { data := #[97, 98, 99, 100, 101, 102, 103, 104, 105, 106, 107, 108, 109, 110, 111, 112, 113, 114, 115, 116, 117, 118, 119, 120, 121, 122, 48, 49, 50, 51, 52, 53, 54, 55, 56, 57, 65, 66, 67, 68, 69, 70, 71, 72, 73, 74, 75, 76, 77, 78, 79, 80, 81, 82, 83, 84, 85, 86, 87, 88, 89, 90] }, .string { data := #[45, 95, 46] }] w
    fun e w' => e = .returned (.int .i64 (if lastB s = true then 0 else 6)) ∧ w' = w := by
  have h := named_any s bothT { data := #[45, 95, 46] } w (by unfold maxLen; omega)
  rw [named_last hs] at h
  exact h
set_option maxHeartbeats 400000 in
theorem nameR_any (s : ByteArray) (w : World) (hs : s.size ≤ maxLen) : Calls Tryz.prog 69 #[.string s] w fun e w' => e = .returned (.int .i64 (checkI s)) ∧ w' = w := by
  unfold maxLen at hs
  by_cases h : (63 : Int) < s.size
  · have HF : Hid (checkI s = 2) := checkI_large h
    go_enter Tryz.func69, Tryz.ntmps69
    go_wp2_with fail
    go_ret
    exact ⟨ret_int HF.out.symm, rfl⟩
  · go_enter Tryz.func69, Tryz.ntmps69
    go_wp2_with fail
    refine (named_low _ _ (by omega)).mono ?_; rintro e w' ⟨rfl, rfl⟩
    go_wp2_with fail
    go_ret
    exact ⟨rfl, rfl⟩
set_option maxHeartbeats 400000 in
theorem valR_any (s : ByteArray) (w : World) (hs : s.size ≤ maxLen) : Calls Tryz.prog 40 #[.string s] w fun e w' => e = .returned (.int .i64 (valI s)) ∧ w' = w := by
  unfold maxLen at hs
  by_cases h : (63 : Int) < s.size
  · have HF : Hid (valI s = 2) := valI_large h
    go_enter Tryz.func40, Tryz.ntmps40
    go_wp2_with fail
    go_ret
    exact ⟨ret_int HF.out.symm, rfl⟩
  · by_cases h0 : s.size = 0
    · rw [toList_empty_eq h0]
      go_enter Tryz.func40, Tryz.ntmps40
      go_wp2_with fail
      go_ret
      exact ⟨ret_int valI_empty.symm, rfl⟩
    · have he := size_cons_ne h0
      have HF : Hid ((if lastB s = true then (0 : Int) else 6) = valI s) := by
        show _ = valI s
        unfold valI
        rw [if_neg (show ¬ 63 < s.size by omega)]
        simp [valB, h0]
      go_enter Tryz.func40, Tryz.ntmps40
      go_wp2_with fail
      refine (named_both _ _ (by omega)).mono ?_
      rw [HF.out]
      rintro e w' ⟨rfl, rfl⟩
      go_wp2_with fail
      go_ret
      exact ⟨rfl, rfl⟩
end Go.Proofs.YtgaopmdpcjcooaaGreatDoor
