/- Contracts of the document's answers over this translation: NameKey. -/
import Derived.Test.YtgaopmdpcjcooaaGreatDoorRefCalls
namespace Go.Proofs.YtgaopmdpcjcooaaGreatDoor
open Go.RowKit
theorem parts_cut {s a b : ByteArray} (h : Lib.cut s.data.toList [47] = (a.data.toList, b.data.toList, true)) : partsB 47 s = a :: partsB 47 b := by
  rcases Lib.indexB_cases s { data := #[47] } with hix | ⟨i, hix, hr⟩
  · have hix' : Lib.index s.data.toList [47] = -1 := hix
    unfold Lib.cut at h
    rw [hix'] at h
    simp at h
  · have hix' : Lib.index s.data.toList [47] = i := hix
    unfold Lib.cut at h
    rw [hix', if_pos (by omega)] at h
    simp only [Prod.mk.injEq] at h
    have ea : s.extract 0 (i + 0) = a := by
      have e := Lib.extract_from_zero s (i + 0)
      have e2 : s.data.toList.take (i + 0) = a.data.toList := by rw [← h.1]; simp
      rw [← bytes_of (e.symm.trans rfl) , e2]
    have eb : s.extract (i + 1) s.size = b := by
      have e := Lib.extract_to_end s (i + 1)
      have e2 : s.data.toList.drop (i + 1) = b.data.toList := by rw [← h.2.1]; simp
      rw [← bytes_of (e.symm.trans rfl), e2]
    have hc := Lib.countB_hit s { data := #[47] } i (Nat.le_refl 1) hix
    have hsz : ByteArray.size { data := #[47] } = 1 := rfl
    rw [hsz, eb] at hc
    unfold partsB
    rw [hc, Nat.add_comm, Lib.splitB_hit _ _ _ _ i hix, hsz, ea, eb]
theorem parts_many {b : ByteArray} (h : (47 : UInt8) ∈ b.data.toList) : 2 ≤ (partsB 47 b).length := by
  rw [parts_length]
  have e : Lib.countB b { data := #[47] } = b.data.toList.count 47 := Lib.count_one 47 b.data.toList
  have := List.count_pos_iff.mpr h
  omega
theorem split_is (c : UInt8) (s : ByteArray) (l : List ByteArray) (n : Nat) (m : Int) (w : World) (hs : s.size ≤ 64) (hm : w.cell? ⟨0, 0, none⟩ = some (.int .i64 m)) (h : partsB c s = l) (hn : l.length = n) :
    Calls Tryz.prog 68 #[.string s, .string { data := #[c] }] w fun e w' => e = .returned (.slice (some ⟨w.heap.size, 0, none⟩) n n) ∧
      (∀ k, k < n → w'.cell? ⟨w.heap.size, k, none⟩ = some (.string (l.getD k ByteArray.empty))) ∧ Below w.heap.size w w' := by
  refine (Tryz.strings_Split s { data := #[c] } m w (by omega) hm (Nat.le_refl 1)).mono ?_
  rintro e w' ⟨rfl, rfl⟩
  have hl := parts_length c s
  rw [show Lib.splitB { data := #[c] } 0 (Lib.countB s { data := #[c] }) s = partsB c s from rfl, ← hl, h, hn]
  exact ⟨rfl, fun k hk => texts_cells w l 9 k (by omega), (Below.refl _ _).alloc (Nat.le_refl _) _⟩
set_option maxHeartbeats 1000000 in
theorem keyR_large (s : ByteArray) (w : World) (h : (64 : Int) < s.size) : Calls Tryz.prog 39 #[.string s] w fun e w' => e = .returned (.int .i64 (keyI s)) ∧ Below w.heap.size w w' := by
  have HF : Hid (keyI s = 2) := keyI_large h
  go_enter Tryz.func39, Tryz.ntmps39
  go_wp2_with fail
  go_ret
  exact ⟨ret_int HF.out.symm, Below.refl _ _⟩
set_option maxHeartbeats 1000000 in
theorem keyR_one (s : ByteArray) (m : Int) (w : World) (hs : s.size ≤ 64) (hm : w.cell? ⟨0, 0, none⟩ = some (.int .i64 m)) (h : (47 : UInt8) ∉ s.data.toList) :
    Calls Tryz.prog 39 #[.string s] w fun e w' => e = .returned (.int .i64 (keyI s)) ∧ Below w.heap.size w w' := by
  have HP : Hid (partsB 47 s = [s]) := parts_alone h
  have hk : keyB s = lastB s := key_one (cut_miss h)
  clear h
  by_cases hl : (63 : Int) < s.size
  · have HF : Hid (keyI s = 6) := keyI_bad (by omega) (by rw [hk]; exact word_f2 hl)
    clear hk
    go_enter Tryz.func39, Tryz.ntmps39
    go_wp2_with fail
    refine (split_is 47 s [s] 1 m _ hs hm HP.out rfl).mono ?_; rintro e w1 ⟨rfl, hc, b1⟩
    have hc0 : w1.cell? ⟨w.heap.size, 0, none⟩ = some (.string s) := hc 0 (by omega)
    clear hc hm
    go_wp2_with fail
    go_ret
    exact ⟨ret_int HF.out.symm, b1⟩
  · have HF : Hid ((if lastB s = true then (0 : Int) else 6) = keyI s) := by
      show _ = keyI s
      unfold keyI
      rw [if_neg (show ¬ 64 < s.size by omega), hk]
    clear hk
    go_enter Tryz.func39, Tryz.ntmps39
    go_wp2_with fail
    refine (split_is 47 s [s] 1 m _ hs hm HP.out rfl).mono ?_; rintro e w1 ⟨rfl, hc, b1⟩
    have hc0 : w1.cell? ⟨w.heap.size, 0, none⟩ = some (.string s) := hc 0 (by omega)
    clear hc hm
    go_wp2_with fail
    refine (named_both _ _ (by omega)).mono ?_
    rw [HF.out]
    rintro e w' ⟨rfl, rfl⟩
    go_wp2_with fail
    go_ret
    exact ⟨rfl, b1⟩
set_option maxHeartbeats 1000000 in
theorem keyR_many (s : ByteArray) (n : Nat) (m : Int) (w : World) (hs : s.size ≤ 64) (hm : w.cell? ⟨0, 0, none⟩ = some (.int .i64 m)) (hn : (partsB 47 s).length = n) (h3 : 3 ≤ n) (hk : keyI s = 6) :
    Calls Tryz.prog 39 #[.string s] w fun e w' => e = .returned (.int .i64 (keyI s)) ∧ Below w.heap.size w w' := by
  have hz : n ≤ 65 := by
    have := Lib.countB_le { data := #[47] } (Nat.le_refl 1) _ s (Nat.le_refl _)
    have := parts_length 47 s
    omega
  have HN : Hid ((partsB 47 s).length = n) := hn
  have HF : Hid (keyI s = 6) := hk
  clear hn hk
  go_enter Tryz.func39, Tryz.ntmps39
  go_wp2_with fail
  refine (split_is 47 s _ n m _ hs hm rfl HN.out).mono ?_; rintro e w1 ⟨rfl, hc, b1⟩
  clear hc hm
  go_wp2_with fail
  go_ret
  exact ⟨ret_int HF.out.symm, b1⟩
set_option maxHeartbeats 2000000 in
theorem keyR_two (s a b : ByteArray) (m : Int) (w : World) (hs : s.size ≤ 64) (hm : w.cell? ⟨0, 0, none⟩ = some (.int .i64 m)) (hc : Lib.cut s.data.toList [47] = (a.data.toList, b.data.toList, true)) (hb : (47 : UInt8) ∉ b.data.toList) (hz : b.size ≤ 63) :
    Calls Tryz.prog 39 #[.string s] w fun e w' => e = .returned (.int .i64 (keyI s)) ∧ Below w.heap.size w w' := by
  have hk := key_two hc
  have ha : a.size ≤ 64 := by have := (cut_sizes hc).1; omega
  have HP : Hid (partsB 47 s = [a, b]) := by show partsB 47 s = [a, b]; rw [parts_cut hc, parts_alone hb]
  have hl := parts_length 46 a
  have hn : (partsB 46 a).length ≤ 65 := by
    have := Lib.countB_le { data := #[46] } (Nat.le_refl 1) _ a (Nat.le_refl _)
    omega
  have HS : Hid (∀ k, k < (partsB 46 a).length → ((partsB 46 a).getD k ByteArray.empty).size ≤ maxLen) := fun k hk => by
    have := part_size (c := 46) (s := a) hk
    show _ ≤ maxLen
    unfold maxLen; omega
  have HT : Hid ((∀ j, j < (partsB 46 a).length → checkI ((partsB 46 a).getD j ByteArray.empty) = 0) → (if lastB b = true then (0 : Int) else 6) = keyI s) := fun h => by
    have e : namesB a = true := names_t fun j hj => checkI_zero.mp (h j hj)
    show _ = keyI s
    unfold keyI
    rw [if_neg (show ¬ 64 < s.size by omega), hk, e, Bool.true_and]
  have HF : Hid (∀ j, j < (partsB 46 a).length → checkI ((partsB 46 a).getD j ByteArray.empty) ≠ 0 → keyI s = 6) := fun j hj h => by
    have e : namesB a = false := names_f hj (by
      cases e : nameB ((partsB 46 a).getD j ByteArray.empty) with
      | false => rfl
      | true => exact absurd (checkI_zero.mpr e) h)
    exact keyI_bad (by omega) (by rw [hk, e, Bool.false_and])
  have HQ : Hid (partsB 46 a = partsB 46 a) := rfl
  generalize hq : partsB 46 a = l at hn HS HT HF HQ
  have HL : Hid (partsB 46 a = l) := hq
  clear hk hc hb hl hq HQ
  go_enter Tryz.func39, Tryz.ntmps39
  go_wp2_with fail
  refine (split_is 47 s [a, b] 2 m _ hs hm HP.out rfl).mono ?_; rintro e w1 ⟨rfl, hc, b1⟩
  have hc0 : w1.cell? ⟨w.heap.size, 0, none⟩ = some (.string a) := hc 0 (by omega)
  have hc1 : w1.cell? ⟨w.heap.size, 1, none⟩ = some (.string b) := hc 1 (by omega)
  have hm1 := cell_later b1 hm
  clear hc hm
  go_wp2_with fail
  refine (split_is 46 a l l.length m _ ha hm1 HL.out rfl).mono ?_; rintro e w2 ⟨rfl, hc, b2⟩
  have B2 := b1.trans (b2.mono b1.size)
  have hb1 := cell_later b2 hc1
  have HC : Hid (∀ k, k < l.length → w2.cell? ⟨w1.heap.size, k, none⟩ = some (.string (l.getD k ByteArray.empty))) := hc
  clear hc hc0 hc1 hm1 b1 b2
  go_wp2_with fail
  go_loop [32] (fun i => ∃ k : Nat, k ≤ l.length ∧ i = .int .i64 k ∧ ∀ j, j < k → checkI (l.getD j ByteArray.empty) = 0) (fun i => l.length - (intOf i).toNat)
  case atStart => exact ⟨0, Nat.zero_le _, rfl, fun j hj => absurd hj (Nat.not_lt_zero _)⟩
  case round =>
    obtain ⟨k, hk, rfl, hall⟩ := hrel
    have HA : Hid (∀ j, j < k → checkI (l.getD j ByteArray.empty) = 0) := hall
    clear hall
    by_cases hlt : k < l.length
    · have hck := HC.out k hlt
      have hzk := HS.out k hlt
      have HF' : Hid (checkI (l.getD k ByteArray.empty) ≠ 0 → keyI s = 6) := HF.out k hlt
      generalize hx : l.getD k ByteArray.empty = x at hck hzk HF'
      have HX : Hid (l.getD k ByteArray.empty = x) := hx
      clear hx
      by_cases h0 : checkI x = 0
      · go_wp2_with fail
        refine (nameR_any _ _ hzk).mono ?_; rintro e w' ⟨rfl, rfl⟩
        go_wp2_with fail
        go_round
        case rel => exact ⟨k + 1, by omega, by go_num, fun j hj => by
          rcases Nat.lt_succ_iff_lt_or_eq.mp hj with hj | rfl
          · exact HA.out j hj
          · rw [HX.out]; exact h0⟩
        case measure => simp [intOf]; omega
      · have h1 : (checkI x != 0) = true := by simpa using h0
        have HG : Hid (keyI s = 6) := HF'.out h0
        clear h0
        go_wp2_with fail
        refine (nameR_any _ _ hzk).mono ?_; rintro e w' ⟨rfl, rfl⟩
        go_wp2_with fail
        go_ret
        exact ⟨ret_int HG.out.symm, B2⟩
    · have hkk : k = l.length := by omega
      have HG : Hid ((if lastB b = true then (0 : Int) else 6) = keyI s) := HT.out (by rw [← hkk]; exact HA.out)
      clear hkk
      go_wp2_with fail
      refine (named_both _ _ hz).mono ?_
      rw [HG.out]
      rintro e w' ⟨rfl, rfl⟩
      go_wp2_with fail
      go_ret
      exact ⟨rfl, B2⟩
theorem keyR_any (s : ByteArray) (m : Int) (w : World) (hm : w.cell? ⟨0, 0, none⟩ = some (.int .i64 m)) :
    Calls Tryz.prog 39 #[.string s] w fun e w' => e = .returned (.int .i64 (keyI s)) ∧ Below w.heap.size w w' := by
  by_cases h : 64 < s.size
  · exact keyR_large s w (by omega)
  · by_cases h1 : (47 : UInt8) ∈ s.data.toList
    · have hc : (Lib.cut s.data.toList [47]).2.2 = true := by
        cases e : (Lib.cut s.data.toList [47]).2.2 with
        | true => rfl
        | false =>
          unfold Lib.cut at e
          split at e
          · cases e
          · rename_i hi
            have hcn : s.data.toList.count 47 = 0 := by
              rw [← Lib.count_one]
              apply Lib.count_miss
              have := Lib.index_ge s.data.toList [47]
              omega
            have := List.count_pos_iff.mpr h1
            omega
      obtain ⟨a, b, hab⟩ := cut_some s hc
      by_cases hb : (47 : UInt8) ∈ b.data.toList
      · refine keyR_many s _ m w (by omega) hm rfl ?_ (keyI_bad (by omega) ?_)
        · rw [parts_cut hab, List.length_cons]
          have := parts_many hb
          omega
        · rw [key_two hab, last_not hb, Bool.and_false]
      · refine keyR_two s a b m w (by omega) hm hab hb ?_
        have h2 := congrArg (fun x => x.2.1.length) hab
        have hi : 0 ≤ Lib.index s.data.toList [47] := by
          unfold Lib.cut at hc
          split at hc
          · assumption
          · cases hc
        unfold Lib.cut at h2
        rw [if_pos hi] at h2
        simp only [List.length_drop] at h2
        have e2 : b.data.toList.length = b.size := rfl
        have e3 : s.data.toList.length = s.size := rfl
        have e4 : ([47] : List UInt8).length = 1 := rfl
        omega
    · exact keyR_one s m w (by omega) hm h1
end Go.Proofs.YtgaopmdpcjcooaaGreatDoor
