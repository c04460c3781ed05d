/- The law NameKeys, walked: it returns true at every two texts within the form's reach. -/
import Derived.Test.YtmihpbpofbmjdaaDoorKeys
import Derived.Test.YtmihpbpofbmjdaaDoorKeyFacts
namespace Go.Proofs.YtmihpbpofbmjdaaDoor
open Go.RowKit
set_option maxHeartbeats 1000000 in
theorem keys_a (a b : ByteArray) (m : Int) (w : World) (ha : a.size ≤ maxLen) (hm : w.cell? ⟨0, 0, none⟩ = some (.int .i64 m)) (h : checkI a ≠ 0) :
    Calls Tryd.prog 4 #[.string a, .string b] w fun e w' => e = .returned (.bool true) ∧ Below w.heap.size w w' := by
  have h2 : (checkI a != 0) = true := by simpa using h
  have hk := key_sign
  go_enter Tryd.func4, Tryd.ntmps4
  go_wp2_with fail
  refine (key_any _ m _ (by decide) hm).mono ?_; rintro e w' ⟨rfl, b1⟩
  go_wp2_with fail
  refine (check_any _ _ ha).mono ?_; rintro e w' ⟨rfl, rfl⟩
  go_wp2_with fail
  go_ret
  exact ⟨rfl, b1⟩
set_option maxHeartbeats 1000000 in
theorem keys_b (a b : ByteArray) (m : Int) (w : World) (hb : b.size ≤ 140737488351232) (hm : w.cell? ⟨0, 0, none⟩ = some (.int .i64 m)) (h : checkI a = 0) (hl : 63 < a.size + b.size) :
    Calls Tryd.prog 4 #[.string a, .string b] w fun e w' => e = .returned (.bool true) ∧ Below w.heap.size w w' := by
  have za := checkI_size h
  have hk := key_sign
  have hka := key_of_name h
  have hva := valI_of_name h
  have hvs : (valI (a ++ { data := #[47] } ++ b) == 0) = false := by simpa using val_slash (a := a) (b := b)
  have hks := key_slash_large hl
  have hz : (a ++ { data := #[47] } ++ b).size ≤ maxLen := by rw [size_slash]; unfold maxLen; omega
  have HZ : Hid ((a ++ { data := #[47] } ++ b).size ≤ maxLen) := hz
  have hl' : (63 : Int) < (a.size : Int) + b.size := by omega
  clear hz hl
  go_enter Tryd.func4, Tryd.ntmps4
  go_wp2_with fail
  refine (key_any _ m _ (by decide) hm).mono ?_; rintro e w1 ⟨rfl, b1⟩
  have hm1 := cell_later b1 hm
  go_wp2_with fail
  refine (check_any _ _ (by unfold maxLen; omega)).mono ?_; rintro e w' ⟨rfl, rfl⟩
  go_wp2_with fail
  refine (key_any _ m _ (by unfold maxLen; omega) hm1).mono ?_; rintro e w2 ⟨rfl, b2⟩
  have B2 := b1.trans (b2.mono b1.size)
  have hm2 := cell_later B2 hm
  clear b1 b2 hm1
  go_wp2_with fail
  refine (val_any _ _ (by unfold maxLen; omega)).mono ?_; rintro e w' ⟨rfl, rfl⟩
  go_wp2_with fail
  refine (val_any _ _ HZ.out).mono ?_; rintro e w' ⟨rfl, rfl⟩
  go_wp2_with fail
  refine (key_any _ m _ HZ.out hm2).mono ?_; rintro e w3 ⟨rfl, b3⟩
  have B3 := B2.trans (b3.mono B2.size)
  clear B2 b3 hm2 hm
  go_wp2_with fail
  go_ret
  exact ⟨rfl, B3⟩
set_option maxHeartbeats 1000000 in
theorem keys_c (a b : ByteArray) (m : Int) (w : World) (hm : w.cell? ⟨0, 0, none⟩ = some (.int .i64 m)) (h : checkI a = 0) (hl : ¬ 63 < a.size + b.size) (h0 : b.size = 0) :
    Calls Tryd.prog 4 #[.string a, .string b] w fun e w' => e = .returned (.bool true) ∧ Below w.heap.size w w' := by
  have za := checkI_size h
  have hk := key_sign
  have hka := key_of_name h
  have hva := valI_of_name h
  have hvs : (valI (a ++ { data := #[47] } ++ b) == 0) = false := by simpa using val_slash (a := a) (b := b)
  have hks := key_slash_bad h hl (last_empty h0)
  have hz : (a ++ { data := #[47] } ++ b).size ≤ maxLen := by rw [size_slash]; unfold maxLen; omega
  have HZ : Hid ((a ++ { data := #[47] } ++ b).size ≤ maxLen) := hz
  have hl' : ¬ (63 : Int) < (a.size : Int) + b.size := by omega
  have he := toList_empty_eq h0
  subst he
  clear hz hl h0
  go_enter Tryd.func4, Tryd.ntmps4
  go_wp2_with fail
  refine (key_any _ m _ (by decide) hm).mono ?_; rintro e w1 ⟨rfl, b1⟩
  have hm1 := cell_later b1 hm
  go_wp2_with fail
  refine (check_any _ _ (by unfold maxLen; omega)).mono ?_; rintro e w' ⟨rfl, rfl⟩
  go_wp2_with fail
  refine (key_any _ m _ (by unfold maxLen; omega) hm1).mono ?_; rintro e w2 ⟨rfl, b2⟩
  have B2 := b1.trans (b2.mono b1.size)
  have hm2 := cell_later B2 hm
  clear b1 b2 hm1
  go_wp2_with fail
  refine (val_any _ _ (by unfold maxLen; omega)).mono ?_; rintro e w' ⟨rfl, rfl⟩
  go_wp2_with fail
  refine (val_any _ _ HZ.out).mono ?_; rintro e w' ⟨rfl, rfl⟩
  go_wp2_with fail
  refine (key_any _ m _ HZ.out hm2).mono ?_; rintro e w3 ⟨rfl, b3⟩
  have B3 := B2.trans (b3.mono B2.size)
  clear B2 b3 hm2 hm
  go_wp2_with fail
  go_ret
  exact ⟨rfl, B3⟩
set_option maxHeartbeats 1000000 in
theorem keys_d (a b : ByteArray) (m : Int) (w : World) (hm : w.cell? ⟨0, 0, none⟩ = some (.int .i64 m)) (h : checkI a = 0) (hl : ¬ 63 < a.size + b.size) (h0 : ¬ b.size = 0) (x : Int)
    (hkx : keyI (a ++ { data := #[47] } ++ b) = x) (hvx : valI b = x) :
    Calls Tryd.prog 4 #[.string a, .string b] w fun e w' => e = .returned (.bool true) ∧ Below w.heap.size w w' := by
  have za := checkI_size h
  have hk := key_sign
  have hka := key_of_name h
  have hva := valI_of_name h
  have hvs : (valI (a ++ { data := #[47] } ++ b) == 0) = false := by simpa using val_slash (a := a) (b := b)
  have hz : (a ++ { data := #[47] } ++ b).size ≤ maxLen := by rw [size_slash]; unfold maxLen; omega
  have HZ : Hid ((a ++ { data := #[47] } ++ b).size ≤ maxLen) := hz
  have hl' : ¬ (63 : Int) < (a.size : Int) + b.size := by omega
  have hzb : b.size ≤ 63 := by omega
  have he := size_cons_ne h0
  clear hz hl h0
  go_enter Tryd.func4, Tryd.ntmps4
  go_wp2_with fail
  refine (key_any _ m _ (by decide) hm).mono ?_; rintro e w1 ⟨rfl, b1⟩
  have hm1 := cell_later b1 hm
  go_wp2_with fail
  refine (check_any _ _ (by unfold maxLen; omega)).mono ?_; rintro e w' ⟨rfl, rfl⟩
  go_wp2_with fail
  refine (key_any _ m _ (by unfold maxLen; omega) hm1).mono ?_; rintro e w2 ⟨rfl, b2⟩
  have B2 := b1.trans (b2.mono b1.size)
  have hm2 := cell_later B2 hm
  clear b1 b2 hm1
  go_wp2_with fail
  refine (val_any _ _ (by unfold maxLen; omega)).mono ?_; rintro e w' ⟨rfl, rfl⟩
  go_wp2_with fail
  refine (val_any _ _ HZ.out).mono ?_; rintro e w' ⟨rfl, rfl⟩
  go_wp2_with fail
  refine (key_any _ m _ HZ.out hm2).mono ?_; rintro e w3 ⟨rfl, b3⟩
  have B3 := B2.trans (b3.mono B2.size)
  clear B2 b3 hm2 hm
  go_wp2_with fail
  refine (val_any _ _ (by unfold maxLen; omega)).mono ?_; rintro e w' ⟨rfl, rfl⟩
  go_wp2_with fail
  go_ret
  exact ⟨rfl, B3⟩
theorem keys_walk (a b : ByteArray) (m : Int) (w : World) (ha : a.size ≤ maxLen) (hb : b.size ≤ 140737488351232) (hm : w.cell? ⟨0, 0, none⟩ = some (.int .i64 m)) :
    Calls Tryd.prog 4 #[.string a, .string b] w fun e w' => e = .returned (.bool true) ∧ Below w.heap.size w w' := by
  by_cases h : checkI a = 0
  · by_cases hl : 63 < a.size + b.size
    · exact keys_b a b m w hb hm h hl
    · by_cases h0 : b.size = 0
      · exact keys_c a b m w hm h hl h0
      · cases e : lastB b with
        | true => exact keys_d a b m w hm h hl h0 0 (key_slash_ok h hl e) (val_of_last e)
        | false => exact keys_d a b m w hm h hl h0 6 (key_slash_bad h hl e) (val_bad h0 (by omega) e)
  · exact keys_a a b m w ha hm h
end Go.Proofs.YtmihpbpofbmjdaaDoor
