/- Contracts of package name's faces over this translation: Check, CheckVal, Join. -/
import Derived.Test.YtmihpbpofbmjdaaDoorCalls
namespace Go.Proofs.YtmihpbpofbmjdaaDoor
open Go.RowKit
set_option maxHeartbeats 400000 in
theorem isVal_any (s : ByteArray) (w : World) (hs : s.size ≤ maxLen) : Calls Tryd.prog 18 #[.string s] w fun e w' => e = .returned (.bool (valB s)) ∧ w' = w := by
  by_cases h : s.size = 0
  · rw [toList_empty_eq h]
    go_enter Tryd.func18, Tryd.ntmps18
    go_wp2_with fail
    go_ret
    exact ⟨rfl, rfl⟩
  · have hv : valB s = lastB s := by simp [valB, h]
    have hb := size_cons_ne h
    rw [hv]
    clear hv
    go_enter Tryd.func18, Tryd.ntmps18
    go_wp2_with (go_at_call 23; refine (isLast_any _ _ hs).mono ?_; rintro e w' ⟨rfl, rfl⟩)
    go_ret
    exact ⟨rfl, rfl⟩
set_option maxHeartbeats 400000 in
theorem judge_name (s : ByteArray) (w : World) (hs : s.size ≤ maxLen) : Calls Tryd.prog 13 #[.string s, .int .i64 63, .func (.func 14) #[] #[]] w fun e w' => e = .returned (.int .i64 (checkI s)) ∧ w' = w := by
  have hs' := hs
  unfold maxLen at hs'
  by_cases h1 : (63 : Int) < s.size
  · go_enter Tryd.func13, Tryd.ntmps13
    go_wp2_with fail
    go_ret
    exact ⟨ret_int (checkI_large h1).symm, rfl⟩
  · cases h2 : nameB s with
    | true =>
      go_enter Tryd.func13, Tryd.ntmps13
      go_wp2_with (go_at_call 14; refine (isName_any _ _ hs).mono ?_; rintro e w' ⟨rfl, rfl⟩)
      go_ret
      exact ⟨ret_int (checkI_ok (by omega) h2).symm, rfl⟩
    | false =>
      go_enter Tryd.func13, Tryd.ntmps13
      go_wp2_with (go_at_call 14; refine (isName_any _ _ hs).mono ?_; rintro e w' ⟨rfl, rfl⟩)
      go_ret
      exact ⟨ret_int (checkI_bad (by omega) h2).symm, rfl⟩
set_option maxHeartbeats 400000 in
theorem judge_val (s : ByteArray) (w : World) (hs : s.size ≤ maxLen) : Calls Tryd.prog 13 #[.string s, .int .i64 63, .func (.func 18) #[] #[]] w fun e w' => e = .returned (.int .i64 (valI s)) ∧ w' = w := by
  have hs' := hs
  unfold maxLen at hs'
  by_cases h1 : (63 : Int) < s.size
  · go_enter Tryd.func13, Tryd.ntmps13
    go_wp2_with fail
    go_ret
    exact ⟨ret_int (valI_large h1).symm, rfl⟩
  · cases h2 : valB s with
    | true =>
      go_enter Tryd.func13, Tryd.ntmps13
      go_wp2_with (go_at_call 18; refine (isVal_any _ _ hs).mono ?_; rintro e w' ⟨rfl, rfl⟩)
      go_ret
      exact ⟨ret_int (valI_ok (by omega) h2).symm, rfl⟩
    | false =>
      go_enter Tryd.func13, Tryd.ntmps13
      go_wp2_with (go_at_call 18; refine (isVal_any _ _ hs).mono ?_; rintro e w' ⟨rfl, rfl⟩)
      go_ret
      exact ⟨ret_int (valI_bad (by omega) h2).symm, rfl⟩
set_option maxHeartbeats 400000 in
theorem check_any (s : ByteArray) (w : World) (hs : s.size ≤ maxLen) : Calls Tryd.prog 7 #[.string s] w fun e w' => e = .returned (.int .i64 (checkI s)) ∧ w' = w := by
  go_enter Tryd.func7, Tryd.ntmps7
  go_wp2_with (go_at_call 13; refine (judge_name _ _ hs).mono ?_; rintro e w' ⟨rfl, rfl⟩)
  go_ret
  exact ⟨rfl, rfl⟩
set_option maxHeartbeats 400000 in
theorem val_any (s : ByteArray) (w : World) (hs : s.size ≤ maxLen) : Calls Tryd.prog 11 #[.string s] w fun e w' => e = .returned (.int .i64 (valI s)) ∧ w' = w := by
  go_enter Tryd.func11, Tryd.ntmps11
  go_wp2_with (go_at_call 13; refine (judge_val _ _ hs).mono ?_; rintro e w' ⟨rfl, rfl⟩)
  go_ret
  exact ⟨rfl, rfl⟩
set_option maxHeartbeats 400000 in
theorem join_a (a b : ByteArray) (w : World) (ha : a.size ≤ maxLen) (h : checkI a ≠ 0) : Calls Tryd.prog 5 #[.string a, .string b] w fun e w' => e = .returned (.tuple #[.string { data := #[] }, .int .i64 (checkI a)]) ∧ w' = w := by
  have h' : (checkI a != 0) = true := by simpa using h
  go_enter Tryd.func5, Tryd.ntmps5
  go_wp2_with (go_at_call 7; refine (check_any _ _ ha).mono ?_; rintro e w' ⟨rfl, rfl⟩)
  go_ret2
  exact ⟨rfl, rfl⟩
set_option maxHeartbeats 400000 in
theorem join_b (a b : ByteArray) (w : World) (ha : a.size ≤ maxLen) (hb : b.size ≤ maxLen) (h : checkI a = 0) (g : checkI b ≠ 0) : Calls Tryd.prog 5 #[.string a, .string b] w fun e w' => e = .returned (.tuple #[.string { data := #[] }, .int .i64 (checkI b)]) ∧ w' = w := by
  have g' : (checkI b != 0) = true := by simpa using g
  go_enter Tryd.func5, Tryd.ntmps5
  go_wp2_with fail
  refine (check_any _ _ ha).mono ?_; rintro e w' ⟨rfl, rfl⟩
  go_wp2_with fail
  refine (check_any _ _ hb).mono ?_; rintro e w' ⟨rfl, rfl⟩
  go_wp2_with fail
  go_ret2
  exact ⟨rfl, rfl⟩
set_option maxHeartbeats 1000000 in
theorem join_c (a b : ByteArray) (w : World) (h : checkI a = 0) (g : checkI b = 0) (f : checkI (a ++ { data := #[45] } ++ b) ≠ 0) :
    Calls Tryd.prog 5 #[.string a, .string b] w fun e w' => e = .returned (.tuple #[.string { data := #[] }, .int .i64 (checkI (a ++ { data := #[45] } ++ b))]) ∧ w' = w := by
  have ha := checkI_size h
  have hb := checkI_size g
  have hc := size_join a b
  have f' : (checkI (a ++ { data := #[45] } ++ b) != 0) = true := by simpa using f
  have HC : Hid ((a ++ { data := #[45] } ++ b).size ≤ maxLen) := by show _ ≤ maxLen; rw [hc]; unfold maxLen; omega
  clear hc
  go_enter Tryd.func5, Tryd.ntmps5
  go_wp2_with fail
  refine (check_any _ _ (by unfold maxLen; omega)).mono ?_; rintro e w' ⟨rfl, rfl⟩
  go_wp2_with fail
  refine (check_any _ _ (by unfold maxLen; omega)).mono ?_; rintro e w' ⟨rfl, rfl⟩
  go_wp2_with fail
  refine (check_any _ _ HC.out).mono ?_; rintro e w' ⟨rfl, rfl⟩
  go_wp2_with fail
  go_ret2
  exact ⟨rfl, rfl⟩
set_option maxHeartbeats 1000000 in
theorem join_d (a b : ByteArray) (w : World) (h : checkI a = 0) (g : checkI b = 0) (f : checkI (a ++ { data := #[45] } ++ b) = 0) :
    Calls Tryd.prog 5 #[.string a, .string b] w fun e w' => e = .returned (.tuple #[.string (a ++ { data := #[45] } ++ b), .int .i64 0]) ∧ w' = w := by
  have ha := checkI_size h
  have hb := checkI_size g
  have hc := size_join a b
  have HC : Hid ((a ++ { data := #[45] } ++ b).size ≤ maxLen) := by show _ ≤ maxLen; rw [hc]; unfold maxLen; omega
  clear hc
  go_enter Tryd.func5, Tryd.ntmps5
  go_wp2_with fail
  refine (check_any _ _ (by unfold maxLen; omega)).mono ?_; rintro e w' ⟨rfl, rfl⟩
  go_wp2_with fail
  refine (check_any _ _ (by unfold maxLen; omega)).mono ?_; rintro e w' ⟨rfl, rfl⟩
  go_wp2_with fail
  refine (check_any _ _ HC.out).mono ?_; rintro e w' ⟨rfl, rfl⟩
  go_wp2_with fail
  go_ret2
  exact ⟨rfl, rfl⟩
end Go.Proofs.YtmihpbpofbmjdaaDoor
