/- The law NameSays, walked: it returns true at every two texts within the form's reach. -/
import Derived.Test.YtmihpbpofbmjdaaDoorRefJoin
namespace Go.Proofs.YtmihpbpofbmjdaaDoor
open Go.RowKit
theorem both_join (a b : ByteArray) (ha : a.size ≤ 140737488351232) (hb : b.size ≤ 140737488351232) :
    ∃ (J : ByteArray) (x : Int), (∀ w : World, Calls Tryd.prog 5 #[.string a, .string b] w fun e w' => e = .returned (.tuple #[.string J, .int .i64 x]) ∧ w' = w) ∧
      ∀ w : World, Calls Tryd.prog 6 #[.string a, .string b] w fun e w' => e = .returned (.tuple #[.string J, .int .i64 x]) ∧ Below w.heap.size w w' := by
  have ha' : a.size ≤ maxLen := by unfold maxLen; omega
  have hb' : b.size ≤ maxLen := by unfold maxLen; omega
  by_cases h : checkI a = 0
  · by_cases g : checkI b = 0
    · by_cases f : checkI (a ++ { data := #[45] } ++ b) = 0
      · exact ⟨_, _, fun w => join_d a b w h g f, fun w => joinR_d a b w ha hb h g f⟩
      · exact ⟨_, _, fun w => join_c a b w h g f, fun w => joinR_c a b w ha hb h g f⟩
    · exact ⟨_, _, fun w => join_b a b w ha' hb' h g, fun w => joinR_b a b w ha hb h g⟩
  · exact ⟨_, _, fun w => join_a a b w ha' h, fun w => joinR_a a b w ha hb h⟩
set_option maxHeartbeats 1000000 in
theorem says_walk (a b : ByteArray) (m : Int) (w : World) (ha : a.size ≤ 140737488351232) (hb : b.size ≤ 140737488351232) (hm : w.cell? ⟨0, 0, none⟩ = some (.int .i64 m)) :
    Calls Tryd.prog 3 #[.string a, .string b] w fun e w' => e = .returned (.bool true) ∧ Below w.heap.size w w' := by
  obtain ⟨J, x, c1, c2⟩ := both_join a b ha hb
  have C1 : Hid (∀ w : World, Calls Tryd.prog 5 #[.string a, .string b] w fun e w' => e = .returned (.tuple #[.string J, .int .i64 x]) ∧ w' = w) := c1
  have C2 : Hid (∀ w : World, Calls Tryd.prog 6 #[.string a, .string b] w fun e w' => e = .returned (.tuple #[.string J, .int .i64 x]) ∧ Below w.heap.size w w') := c2
  clear c1 c2
  go_enter Tryd.func3, Tryd.ntmps3
  go_wp2_with fail
  refine Calls.mono (C1.out _) ?_; rintro e w' ⟨rfl, rfl⟩
  go_wp2_with fail
  refine Calls.mono (C2.out _) ?_; rintro e w1 ⟨rfl, b1⟩
  have hm1 := cell_later b1 hm
  clear C1 C2
  go_wp2_with fail
  refine (check_any _ _ (by unfold maxLen; omega)).mono ?_; rintro e w' ⟨rfl, rfl⟩
  go_wp2_with fail
  refine (nameR_any _ _ (by unfold maxLen; omega)).mono ?_; rintro e w' ⟨rfl, rfl⟩
  go_wp2_with fail
  refine (key_any _ m _ (by unfold maxLen; omega) hm1).mono ?_; rintro e w2 ⟨rfl, b2⟩
  have B2 := b1.trans (b2.mono b1.size)
  have hm2 := cell_later B2 hm
  clear b1 b2 hm1
  go_wp2_with fail
  refine (keyR_any _ m _ hm2).mono ?_; rintro e w3 ⟨rfl, b3⟩
  have B3 := B2.trans (b3.mono B2.size)
  clear B2 b3 hm2 hm
  go_wp2_with fail
  refine (val_any _ _ (by unfold maxLen; omega)).mono ?_; rintro e w' ⟨rfl, rfl⟩
  go_wp2_with fail
  refine (valR_any _ _ (by unfold maxLen; omega)).mono ?_; rintro e w' ⟨rfl, rfl⟩
  go_wp2_with fail
  go_ret
  exact ⟨rfl, B3⟩
end Go.Proofs.YtmihpbpofbmjdaaDoor
