/- The law NameJoins, walked: it returns true at every two texts. -/
import Derived.Test.YtmihpbpofbmjdaaChecks
import Derived.Test.YtmihpbpofbmjdaaPlain
namespace Go.Proofs.Ytmihpbpofbmjdaa
open Go.RowKit
set_option maxHeartbeats 1000000 in
theorem joins_a (a b : ByteArray) (w : World) (ha : a.size ≤ maxLen) (h : checkI a ≠ 0) :
    Calls Try.prog 4 #[.string a, .string b] w fun e w' => e = .returned (.bool true) ∧ w' = w := by
  have h1 : (checkI a == 0) = false := by simpa using h
  have h2 : (checkI a != 0) = true := by simpa using h
  have he := checkI_empty
  have hv := valI_empty
  go_enter Try.func4, Try.ntmps4
  go_wp2_with fail
  refine (join_a _ _ _ ha h).mono ?_; rintro e w' ⟨rfl, rfl⟩
  go_wp2_with fail
  refine (check_any _ _ (by decide)).mono ?_; rintro e w' ⟨rfl, rfl⟩
  go_wp2_with fail
  refine (val_any _ _ (by decide)).mono ?_; rintro e w' ⟨rfl, rfl⟩
  go_wp2_with fail
  refine (check_any _ _ ha).mono ?_; rintro e w' ⟨rfl, rfl⟩
  go_wp2_with fail
  go_ret
  exact ⟨rfl, rfl⟩
set_option maxHeartbeats 1000000 in
theorem joins_b (a b : ByteArray) (w : World) (ha : a.size ≤ maxLen) (hb : b.size ≤ maxLen) (h : checkI a = 0) (g : checkI b ≠ 0) :
    Calls Try.prog 4 #[.string a, .string b] w fun e w' => e = .returned (.bool true) ∧ w' = w := by
  have h1 : (checkI b == 0) = false := by simpa using g
  have h2 : (checkI b != 0) = true := by simpa using g
  have he := checkI_empty
  have hv := valI_empty
  go_enter Try.func4, Try.ntmps4
  go_wp2_with fail
  refine (join_b _ _ _ ha hb h g).mono ?_; rintro e w' ⟨rfl, rfl⟩
  go_wp2_with fail
  refine (check_any _ _ (by decide)).mono ?_; rintro e w' ⟨rfl, rfl⟩
  go_wp2_with fail
  refine (val_any _ _ (by decide)).mono ?_; rintro e w' ⟨rfl, rfl⟩
  go_wp2_with fail
  refine (check_any _ _ ha).mono ?_; rintro e w' ⟨rfl, rfl⟩
  go_wp2_with fail
  refine (check_any _ _ hb).mono ?_; rintro e w' ⟨rfl, rfl⟩
  go_wp2_with fail
  go_ret
  exact ⟨rfl, rfl⟩
theorem join_c2 (a b : ByteArray) (w : World) (h : checkI a = 0) (g : checkI b = 0) (hl : ¬ a.size + b.size < 63) :
    Calls Try.prog 6 #[.string a, .string b] w fun e w' => e = .returned (.tuple #[.string { data := #[] }, .int .i64 2]) ∧ w' = w := by
  have f := join_large hl
  have J := join_c a b w h g (by rw [f]; decide)
  rw [f] at J
  exact J
set_option maxHeartbeats 1000000 in
theorem joins_c (a b : ByteArray) (w : World) (h : checkI a = 0) (g : checkI b = 0) (hl : ¬ a.size + b.size < 63) :
    Calls Try.prog 4 #[.string a, .string b] w fun e w' => e = .returned (.bool true) ∧ w' = w := by
  have f := join_large hl
  have za := checkI_size h
  have zb := checkI_size g
  have he := checkI_empty
  have hv := valI_empty
  have hd : decide ((a.size : Int) + b.size < 63) = false := decide_eq_false (by omega)
  have HL : Hid (¬ a.size + b.size < 63) := hl
  clear f hl
  go_enter Try.func4, Try.ntmps4
  go_wp2_with fail
  refine (join_c2 _ _ _ h g HL.out).mono ?_; rintro e w' ⟨rfl, rfl⟩
  go_wp2_with fail
  refine (check_any _ _ (by decide)).mono ?_; rintro e w' ⟨rfl, rfl⟩
  go_wp2_with fail
  refine (val_any _ _ (by decide)).mono ?_; rintro e w' ⟨rfl, rfl⟩
  go_wp2_with fail
  refine (check_any _ _ (by unfold maxLen; omega)).mono ?_; rintro e w' ⟨rfl, rfl⟩
  go_wp2_with fail
  refine (check_any _ _ (by unfold maxLen; omega)).mono ?_; rintro e w' ⟨rfl, rfl⟩
  go_wp2_with fail
  go_ret
  exact ⟨rfl, rfl⟩
set_option maxHeartbeats 1000000 in
theorem joins_d (a b : ByteArray) (w : World) (h : checkI a = 0) (g : checkI b = 0) (hl : a.size + b.size < 63) :
    Calls Try.prog 4 #[.string a, .string b] w fun e w' => e = .returned (.bool true) ∧ w' = w := by
  have f := join_good h g hl
  have za := checkI_size h
  have zb := checkI_size g
  have he := checkI_empty
  have hv := valI_empty
  have hl' : ((a.size : Int) + b.size < 63) := by omega
  have hj := valI_of_name f
  have hz : (a ++ { data := #[45] } ++ b).size ≤ maxLen := by rw [size_join]; unfold maxLen; omega
  have HZ : Hid ((a ++ { data := #[45] } ++ b).size ≤ maxLen) := hz
  clear hz
  go_enter Try.func4, Try.ntmps4
  go_wp2_with fail
  refine (join_d _ _ _ h g f).mono ?_; rintro e w' ⟨rfl, rfl⟩
  go_wp2_with fail
  refine (check_any _ _ (by decide)).mono ?_; rintro e w' ⟨rfl, rfl⟩
  go_wp2_with fail
  refine (val_any _ _ (by decide)).mono ?_; rintro e w' ⟨rfl, rfl⟩
  go_wp2_with fail
  refine (check_any _ _ (by unfold maxLen; omega)).mono ?_; rintro e w' ⟨rfl, rfl⟩
  go_wp2_with fail
  refine (check_any _ _ (by unfold maxLen; omega)).mono ?_; rintro e w' ⟨rfl, rfl⟩
  go_wp2_with fail
  refine (check_any _ _ HZ.out).mono ?_; rintro e w' ⟨rfl, rfl⟩
  go_wp2_with fail
  refine (val_any _ _ HZ.out).mono ?_; rintro e w' ⟨rfl, rfl⟩
  go_wp2_with fail
  go_ret
  exact ⟨rfl, rfl⟩
theorem joins_walk (a b : ByteArray) (ha : a.size ≤ maxLen) (hb : b.size ≤ maxLen) (w : World) :
    Calls Try.prog 4 #[.string a, .string b] w fun e w' => e = .returned (.bool true) ∧ Grown w w' := by
  have same : ∀ {e : Ending} {w' : World}, (e = .returned (.bool true) ∧ w' = w) → e = .returned (.bool true) ∧ Grown w w' := fun ⟨h, h'⟩ => ⟨h, h' ▸ Grown.refl _⟩
  by_cases h : checkI a = 0
  · by_cases g : checkI b = 0
    · by_cases hl : a.size + b.size < 63
      · exact (joins_d a b w h g hl).mono fun _ _ => same
      · exact (joins_c a b w h g hl).mono fun _ _ => same
    · exact (joins_b a b w ha hb h g).mono fun _ _ => same
  · exact (joins_a a b w ha h).mono fun _ _ => same
end Go.Proofs.Ytmihpbpofbmjdaa
