/- Contracts of package name's keys over this translation: isNames, isKey, CheckKey. -/
import Derived.Test.YtgaopmdpcjcooaaGreatDoorChecks
import Derived.Test.YtgaopmdpcjcooaaGreatDoorKeyPlain
import Derived.Test.YtgaopmdpcjcooaaGreatDoorShelf
import Derived.WalkSmall
namespace Go.Proofs.YtgaopmdpcjcooaaGreatDoor
open Go.RowKit
set_option maxHeartbeats 1000000 in
theorem isNames_any (s : ByteArray) (m : Int) (w : World) (hs : s.size ≤ 64) (hm : w.cell? ⟨0, 0, none⟩ = some (.int .i64 m)) :
    Calls Tryz.prog 103 #[.string s] w fun e w' => e = .returned (.bool (namesB s)) ∧ Below w.heap.size w w' := by
  go_enter Tryz.func103, Tryz.ntmps103
  go_wp2_with fail
  refine (Tryz.strings_Split s { data := #[46] } m _ (by omega) hm (by decide)).mono ?_
  rintro e w' ⟨rfl, rfl⟩
  have hl := parts_length 46 s
  have hn : (partsB 46 s).length ≤ 65 := by
    have := Lib.countB_le { data := #[46] } (by decide) _ s (Nat.le_refl _)
    omega
  rw [show Lib.splitB { data := #[46] } 0 (Lib.countB s { data := #[46] }) s = partsB 46 s from rfl, ← hl]
  have HC : Hid (∀ k, k < (partsB 46 s).length → (w.alloc (.cells ((partsB 46 s).map Value.string).toArray 9)).cell? ⟨w.heap.size, k, none⟩ = some (.string ((partsB 46 s).getD k ByteArray.empty))) :=
    texts_cells w (partsB 46 s) 9
  have HS : Hid (∀ k, k < (partsB 46 s).length → ((partsB 46 s).getD k ByteArray.empty).size ≤ maxLen) := fun k hk => by
    have := part_size (c := 46) (s := s) hk
    show _ ≤ maxLen
    unfold maxLen; omega
  have HB : Below w.heap.size w (w.alloc (.cells ((partsB 46 s).map Value.string).toArray 9)) := (Below.refl _ _).alloc (Nat.le_refl _) _
  have HT : Hid ((∀ j, j < (partsB 46 s).length → nameB ((partsB 46 s).getD j ByteArray.empty) = true) → namesB s = true) := names_t
  have HF : Hid (∀ j, j < (partsB 46 s).length → nameB ((partsB 46 s).getD j ByteArray.empty) = false → namesB s = false) := fun j => names_f
  clear hl hm
  generalize w.alloc (.cells ((partsB 46 s).map Value.string).toArray 9) = w1 at HC HB ⊢
  generalize partsB 46 s = l at hn HC HS HT HF ⊢
  go_wp2_with fail
  go_loop [8] (fun i => ∃ k : Nat, k ≤ l.length ∧ i = .int .i64 k ∧ ∀ j, j < k → nameB (l.getD j ByteArray.empty) = true) (fun i => l.length - (intOf i).toNat)
  case atStart => exact ⟨0, Nat.zero_le _, rfl, fun j hj => absurd hj (Nat.not_lt_zero _)⟩
  case round =>
    obtain ⟨k, hk, rfl, hall⟩ := hrel
    have HA : Hid (∀ j, j < k → nameB (l.getD j ByteArray.empty) = true) := hall
    clear hall
    by_cases hlt : k < l.length
    · have hc := HC.out k hlt
      have hz := HS.out k hlt
      have hf := HF.out k hlt
      have HF' : Hid (nameB (l.getD k ByteArray.empty) = false → namesB s = false) := hf
      clear hf
      generalize hx : l.getD k ByteArray.empty = x at hc hz HF'
      have HX : Hid (l.getD k ByteArray.empty = x) := hx
      clear hx
      cases hb : nameB x with
      | true =>
        go_wp2_with (go_at_call 129; refine (isName_any _ _ hz).mono ?_; rintro e w' ⟨rfl, rfl⟩)
        go_round
        case rel => exact ⟨k + 1, by omega, by go_num, fun j hj => by
          rcases Nat.lt_succ_iff_lt_or_eq.mp hj with hj | rfl
          · exact HA.out j hj
          · rw [HX.out]; exact hb⟩
        case measure => simp [intOf]; omega
      | false =>
        go_wp2_with (go_at_call 129; refine (isName_any _ _ hz).mono ?_; rintro e w' ⟨rfl, rfl⟩)
        go_ret
        exact ⟨ret_bool (HF'.out hb).symm, HB⟩
    · have hkk : k = l.length := by omega
      have HK : Hid (k = l.length) := hkk
      clear hkk
      go_wp2_with fail
      go_ret
      exact ⟨ret_bool (HT.out (by rw [← HK.out]; exact HA.out)).symm, HB⟩
theorem cut_yes (s a b : ByteArray) (m : Int) (w : World) (hs : s.size ≤ 64) (hm : w.cell? ⟨0, 0, none⟩ = some (.int .i64 m)) (h : Lib.cut s.data.toList [47] = (a.data.toList, b.data.toList, true)) :
    Calls Tryz.prog 101 #[.string s, .string { data := #[47] }] w fun e w' => e = .returned (.tuple #[.string a, .string b, .bool true]) ∧ Below w.heap.size w w' := by
  refine (Tryz.strings_Cut s { data := #[47] } m w (by omega) hm).mono ?_
  rintro e w' ⟨rfl, n, rfl⟩
  rw [show ({ data := #[47] } : ByteArray).data.toList = [47] from rfl, h]
  exact ⟨rfl, below_drewN (Below.refl _ _) n⟩
theorem cut_no (s : ByteArray) (m : Int) (w : World) (hs : s.size ≤ 64) (hm : w.cell? ⟨0, 0, none⟩ = some (.int .i64 m)) (h : (Lib.cut s.data.toList [47]).2.2 = false) :
    Calls Tryz.prog 101 #[.string s, .string { data := #[47] }] w fun e w' => (∃ a b, e = .returned (.tuple #[.string a, .string b, .bool false])) ∧ Below w.heap.size w w' := by
  refine (Tryz.strings_Cut s { data := #[47] } m w (by omega) hm).mono ?_
  rintro e w' ⟨rfl, n, rfl⟩
  rw [show ({ data := #[47] } : ByteArray).data.toList = [47] from rfl, h]
  exact ⟨⟨_, _, rfl⟩, below_drewN (Below.refl _ _) n⟩
set_option maxHeartbeats 1000000 in
theorem isKey_one (s : ByteArray) (m : Int) (w : World) (hs : s.size ≤ 64) (hm : w.cell? ⟨0, 0, none⟩ = some (.int .i64 m)) (h : (Lib.cut s.data.toList [47]).2.2 = false) :
    Calls Tryz.prog 82 #[.string s] w fun e w' => e = .returned (.bool (lastB s)) ∧ Below w.heap.size w w' := by
  have HC : Hid ((Lib.cut s.data.toList [47]).2.2 = false) := h
  clear h
  go_enter Tryz.func82, Tryz.ntmps82
  go_wp2_with fail
  refine (cut_no s m _ hs hm HC.out).mono ?_
  rintro e w' ⟨⟨a, b, rfl⟩, hb⟩
  go_wp2_with fail
  refine (isLast_any _ _ (by unfold maxLen; omega)).mono ?_; rintro e w' ⟨rfl, rfl⟩
  go_wp2_with fail
  go_ret
  exact ⟨rfl, hb⟩
set_option maxHeartbeats 1000000 in
theorem isKey_two (s a b : ByteArray) (m : Int) (w : World) (hs : s.size ≤ 64) (hm : w.cell? ⟨0, 0, none⟩ = some (.int .i64 m)) (h : Lib.cut s.data.toList [47] = (a.data.toList, b.data.toList, true)) :
    Calls Tryz.prog 82 #[.string s] w fun e w' => e = .returned (.bool (namesB a && lastB b)) ∧ Below w.heap.size w w' := by
  have hz := cut_sizes h
  have HC : Hid (Lib.cut s.data.toList [47] = (a.data.toList, b.data.toList, true)) := h
  obtain ⟨ha, hb⟩ := hz
  clear h
  cases hn : namesB a with
  | true =>
    go_enter Tryz.func82, Tryz.ntmps82
    go_wp2_with fail
    refine (cut_yes s a b m _ hs hm HC.out).mono ?_
    rintro e w' ⟨rfl, b1⟩
    have hm' := cell_later b1 hm
    go_wp2_with fail
    refine (isNames_any a m _ (by omega) hm').mono ?_
    rintro e w'' ⟨rfl, b2⟩
    have B2 := b1.trans (b2.mono b1.size)
    clear hm hm' b1 b2
    go_wp2_with fail
    refine (isLast_any _ _ (by unfold maxLen; omega)).mono ?_; rintro e w' ⟨rfl, rfl⟩
    go_wp2_with fail
    go_ret
    exact ⟨rfl, B2⟩
  | false =>
    go_enter Tryz.func82, Tryz.ntmps82
    go_wp2_with fail
    refine (cut_yes s a b m _ hs hm HC.out).mono ?_
    rintro e w' ⟨rfl, b1⟩
    have hm' := cell_later b1 hm
    go_wp2_with fail
    refine (isNames_any a m _ (by omega) hm').mono ?_
    rintro e w'' ⟨rfl, b2⟩
    have B2 := b1.trans (b2.mono b1.size)
    clear hm hm' b1 b2
    go_wp2_with fail
    go_ret
    exact ⟨rfl, B2⟩
theorem isKey_any (s : ByteArray) (m : Int) (w : World) (hs : s.size ≤ 64) (hm : w.cell? ⟨0, 0, none⟩ = some (.int .i64 m)) :
    Calls Tryz.prog 82 #[.string s] w fun e w' => e = .returned (.bool (keyB s)) ∧ Below w.heap.size w w' := by
  cases h : (Lib.cut s.data.toList [47]).2.2 with
  | false => rw [key_one h]; exact isKey_one s m w hs hm h
  | true =>
    obtain ⟨a, b, h'⟩ := cut_some s h
    rw [key_two h']
    exact isKey_two s a b m w hs hm h'
set_option maxHeartbeats 400000 in
theorem judge_key (s : ByteArray) (m : Int) (w : World) (hs : s.size ≤ maxLen) (hm : w.cell? ⟨0, 0, none⟩ = some (.int .i64 m)) : Calls Tryz.prog 81 #[.string s, .int .i64 64, .func (.func 82) #[] #[]] w fun e w' => e = .returned (.int .i64 (keyI s)) ∧ Below w.heap.size w w' := by
  unfold maxLen at hs
  by_cases h1 : (64 : Int) < s.size
  · go_enter Tryz.func81, Tryz.ntmps81
    go_wp2_with fail
    go_ret
    exact ⟨ret_int (keyI_large h1).symm, Below.refl _ _⟩
  · cases h2 : keyB s with
    | true =>
      go_enter Tryz.func81, Tryz.ntmps81
      go_wp2_with (go_at_call 82; refine (isKey_any _ m _ (by omega) hm).mono ?_; rintro e w' ⟨rfl, B⟩)
      go_ret
      exact ⟨ret_int (keyI_ok (by omega) h2).symm, B⟩
    | false =>
      go_enter Tryz.func81, Tryz.ntmps81
      go_wp2_with (go_at_call 82; refine (isKey_any _ m _ (by omega) hm).mono ?_; rintro e w' ⟨rfl, B⟩)
      go_ret
      exact ⟨ret_int (keyI_bad (by omega) h2).symm, B⟩
set_option maxHeartbeats 400000 in
theorem key_any (s : ByteArray) (m : Int) (w : World) (hs : s.size ≤ maxLen) (hm : w.cell? ⟨0, 0, none⟩ = some (.int .i64 m)) : Calls Tryz.prog 58 #[.string s] w fun e w' => e = .returned (.int .i64 (keyI s)) ∧ Below w.heap.size w w' := by
  go_enter Tryz.func58, Tryz.ntmps58
  go_wp2_with (go_at_call 81; refine (judge_key _ m _ hs hm).mono ?_; rintro e w' ⟨rfl, B⟩)
  go_ret
  exact ⟨rfl, B⟩
end Go.Proofs.YtgaopmdpcjcooaaGreatDoor
