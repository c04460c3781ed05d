/- Contracts of package name's faces over this translation: Check, CheckVal, Join. -/
import Derived.Test.YtmihpbpofbmjdaaCalls
namespace Go.Proofs.Ytmihpbpofbmjdaa
open Go.RowKit
set_option maxHeartbeats 400000 in
theorem isVal_any (s : ByteArray) (w : World) (hs : s.size ≤ maxLen) : Calls Try.prog 11 #[.string s] w fun e w' => e = .returned (.bool (valB s)) ∧ w' = w := by
  by_cases h : s.size = 0
  · rw [toList_empty_eq h]
    go_enter Try.func11, Try.ntmps11
    go_wp2_with fail
    go_ret
    exact ⟨rfl, rfl⟩
  · have hv : valB s = lastB s := by simp [valB, h]
    have hb := size_cons_ne h
    rw [hv]
    clear hv
    go_enter Try.func11, Try.ntmps11
    go_wp2_with (go_at_call 14; refine (isLast_any _ _ hs).mono ?_; rintro e w' ⟨rfl, rfl⟩)
    go_ret
    exact ⟨rfl, rfl⟩
set_option maxHeartbeats 400000 in
theorem judge_name (s : ByteArray) (w : World) (hs : s.size ≤ maxLen) : Calls Try.prog 9 #[.string s, .int .i64 63, .func (.func 10) #[] #[]] w fun e w' => e = .returned (.int .i64 (checkI s)) ∧ w' = w := by
  have hs' := hs
  unfold maxLen at hs'
  by_cases h1 : (63 : Int) < s.size
  · go_enter Try.func9, Try.ntmps9
    go_wp2_with fail
    go_ret
    exact ⟨ret_int (checkI_large h1).symm, rfl⟩
  · cases h2 : nameB s with
    | true =>
      go_enter Try.func9, Try.ntmps9
      go_wp2_with (go_at_call 10; refine (isName_any _ _ hs).mono ?_; rintro e w' ⟨rfl, rfl⟩)
      go_ret
      exact ⟨ret_int (checkI_ok (by omega) h2).symm, rfl⟩
    | false =>
      go_enter Try.func9, Try.ntmps9
      go_wp2_with (go_at_call 10; refine (isName_any _ _ hs).mono ?_; rintro e w' ⟨rfl, rfl⟩)
      go_ret
      exact ⟨ret_int (checkI_bad (by omega) h2).symm, rfl⟩
set_option maxHeartbeats 400000 in
theorem judge_val (s : ByteArray) (w : World) (hs : s.size ≤ maxLen) : Calls Try.prog 9 #[.string s, .int .i64 63, .func (.func 11) #[] #[]] w fun e w' => e = .returned (.int .i64 (valI s)) ∧ w' = w := by
  have hs' := hs
  unfold maxLen at hs'
  by_cases h1 : (63 : Int) < s.size
  · go_enter Try.func9, Try.ntmps9
    go_wp2_with fail
    go_ret
    exact ⟨ret_int (valI_large h1).symm, rfl⟩
  · cases h2 : valB s with
    | true =>
      go_enter Try.func9, Try.ntmps9
      go_wp2_with (go_at_call 11; refine (isVal_any _ _ hs).mono ?_; rintro e w' ⟨rfl, rfl⟩)
      go_ret
      exact ⟨ret_int (valI_ok (by omega) h2).symm, rfl⟩
    | false =>
      go_enter Try.func9, Try.ntmps9
      go_wp2_with (go_at_call 11; refine (isVal_any _ _ hs).mono ?_; rintro e w' ⟨rfl, rfl⟩)
      go_ret
      exact ⟨ret_int (valI_bad (by omega) h2).symm, rfl⟩
set_option maxHeartbeats 400000 in
theorem check_any (s : ByteArray) (w : World) (hs : s.size ≤ maxLen) : Calls Try.prog 7 #[.string s] w fun e w' => e = .returned (.int .i64 (checkI s)) ∧ w' = w := by
  go_enter Try.func7, Try.ntmps7
  go_wp2_with (go_at_call 9; refine (judge_name _ _ hs).mono ?_; rintro e w' ⟨rfl, rfl⟩)
  go_ret
  exact ⟨rfl, rfl⟩
set_option maxHeartbeats 400000 in
theorem val_any (s : ByteArray) (w : World) (hs : s.size ≤ maxLen) : Calls Try.prog 8 #[.string s] w fun e w' => e = .returned (.int .i64 (valI s)) ∧ w' = w := by
  go_enter Try.func8, Try.ntmps8
  go_wp2_with (go_at_call 9; refine (judge_val _ _ hs).mono ?_; rintro e w' ⟨rfl, rfl⟩)
  go_ret
  exact ⟨rfl, rfl⟩
set_option maxHeartbeats 400000 in
theorem join_a (a b : ByteArray) (w : World) (ha : a.size ≤ maxLen) (h : checkI a ≠ 0) : Calls Try.prog 6 #[.string a, .string b] w fun e w' => e = .returned (.tuple #[.string { data := #[] }, .int .i64 (checkI a)]) ∧ w' = w := by
  have h' : (checkI a != 0) = true := by simpa using h
  go_enter Try.func6, Try.ntmps6
  go_wp2_with (go_at_call 7; refine (check_any _ _ ha).mono ?_; rintro e w' ⟨rfl, rfl⟩)
  go_ret2
  exact ⟨rfl, rfl⟩
set_option maxHeartbeats 400000 in
theorem join_b (a b : ByteArray) (w : World) (ha : a.size ≤ maxLen) (hb : b.size ≤ maxLen) (h : checkI a = 0) (g : checkI b ≠ 0) : Calls Try.prog 6 #[.string a, .string b] w fun e w' => e = .returned (.tuple #[.string { data := #[] }, .int .i64 (checkI b)]) ∧ w' = w := by
  have g' : (checkI b != 0) = true := by simpa using g
  go_enter Try.func6, Try.ntmps6
  go_wp2_with fail
  refine (check_any _ _ ha).mono ?_; rintro e w' ⟨rfl, rfl⟩
  go_wp2_with fail
  refine (check_any _ _ hb).mono ?_; rintro e w' ⟨rfl, rfl⟩
  go_wp2_with fail
  go_ret2
  exact ⟨rfl, rfl⟩
set_option maxHeartbeats 1000000 in
theorem join_c (a b : ByteArray) (w : World) (h : checkI a = 0) (g : checkI b = 0) (f : checkI (a ++ { data := #[45] } ++ b) ≠ 0) :
    Calls Try.prog 6 #[.string a, .string b] w fun e w' => e = .returned (.tuple #[.string { data := #[] }, .int .i64 (checkI (a ++ { data := #[45] } ++ b))]) ∧ w' = w := by
  have ha := checkI_size h
  have hb := checkI_size g
  have hc := size_join a b
  have f' : (checkI (a ++ { data := #[45] } ++ b) != 0) = true := by simpa using f
  have HC : Hid ((a ++ { data := #[45] } ++ b).size ≤ maxLen) := by show _ ≤ maxLen; rw [hc]; unfold maxLen; omega
  clear hc
  go_enter Try.func6, Try.ntmps6
  go_wp2_with fail
  refine (check_any _ _ (by unfold maxLen; omega)).mono ?_; rintro e w' ⟨rfl, rfl⟩
  go_wp2_with fail
  refine (check_any _ _ (by unfold maxLen; omega)).mono ?_; rintro e w' ⟨rfl, rfl⟩
  go_wp2_with fail
  refine (check_any _ _ HC.out).mono ?_; rintro e w' ⟨rfl, rfl⟩
  go_wp2_with fail
  go_ret2
  exact ⟨rfl, rfl⟩
set_option maxHeartbeats 1000000 in
theorem join_d (a b : ByteArray) (w : World) (h : checkI a = 0) (g : checkI b = 0) (f : checkI (a ++ { data := #[45] } ++ b) = 0) :
    Calls Try.prog 6 #[.string a, .string b] w fun e w' => e = .returned (.tuple #[.string (a ++ { data := #[45] } ++ b), .int .i64 0]) ∧ w' = w := by
  have ha := checkI_size h
  have hb := checkI_size g
  have hc := size_join a b
  have HC : Hid ((a ++ { data := #[45] } ++ b).size ≤ maxLen) := by show _ ≤ maxLen; rw [hc]; unfold maxLen; omega
  clear hc
  go_enter Try.func6, Try.ntmps6
  go_wp2_with fail
  refine (check_any _ _ (by unfold maxLen; omega)).mono ?_; rintro e w' ⟨rfl, rfl⟩
  go_wp2_with fail
  refine (check_any _ _ (by unfold maxLen; omega)).mono ?_; rintro e w' ⟨rfl, rfl⟩
  go_wp2_with fail
  refine (check_any _ _ HC.out).mono ?_; rintro e w' ⟨rfl, rfl⟩
  go_wp2_with fail
  go_ret2
  exact ⟨rfl, rfl⟩
end Go.Proofs.Ytmihpbpofbmjdaa
