/- Contract over this translation: what seal.Mac answers. -/
import Derived.Test.YtmbpjbghhimedaaGreatDoorSlMask
namespace Go.Proofs.YtmbpjbghhimedaaGreatDoor
open Go.RowKit
set_option linter.unusedVariables false
set_option linter.unusedSimpArgs false
set_option maxRecDepth 100000 in
set_option maxHeartbeats 8000000 in
theorem mac_any (key s : Bs) (w : World) (hk : key.length ≤ maxLen) (hs : s.length ≤ maxLen - 64) (hc : Cub w) :
    Calls Tryz.prog 36 #[.string (Ba key), .string (Ba s)] w fun e w' => e = .returned (.string (Ba (macP key s))) ∧ Below w.heap.size w w' := by
  have hks : (Ba key).size = key.length := ba_size key
  generalize hmr : Ba (macP key s) = mres
  by_cases hbig : key.length > 64
  · obtain ⟨ky, hky⟩ : ∃ ky, ky = sumP key := ⟨_, rfl⟩
    have hk64 : ky.length ≤ 64 := by rw [hky, sumP_length]; decide
    have HSk : Hid (Calls Tryz.prog 59 #[.string (Ba key)] w fun e w' => e = .returned (.string (Ba ky)) ∧ Below w.heap.size w w') := by rw [hky]; exact sum_any key w hk hc
    have HResB : Hid (Ba (macK ky s) = mres) := by show _ = _; rw [← hmr, macP, if_pos hbig, hky]
    clear hky
    have HCub : Hid (Cub w) := hc
    have hnI : (64 : Int) < (key.length : Int) := by omega
    unfold maxLen at hk hs
    go_enter Tryz.func36, Tryz.ntmps36
    go_wp2_with fail
    refine Calls.mono HSk.out ?_
    rintro e w1 ⟨rfl, b1⟩
    have HB1 : Hid (Below w.heap.size w w1) := b1
    clear b1
    obtain ⟨w3, hcp, hrow, hb3⟩ := key_copy w1 ky hk64
    have hkl := keyP_length hk64
    have HRes : Hid (Ba (macK ky s) = mres) := HResB.out
    have HBR : Hid (Below w.heap.size w w3) := HB1.out.trans (hb3.mono HB1.out.size)
    have HCu : Hid (Cub w3.drew) := HCub.out.below HBR.out.drew
    have hlt3 : w1.heap.size < w3.heap.size := lt_of_block hrow
    have HLd : Hid (∀ w', Below w3.drew.heap.size w3.drew w' → (loadVar 78 ⟨w1.heap.size, 0, none⟩).run Tryz.prog w' = .ok (.agg (Lib.byteCells (keyP ky)).toArray) w') := fun w' hb => by
      have hr : w'.heap[w1.heap.size]? = some (.cells (Lib.byteCells (keyP ky)).toArray 78 (0, 0)) := by
        rw [hb.block _ hlt3]
        exact hrow
      exact run_loadVar_row w' _ 78 78 _ (0, 0) _ hr Tryz.underlying78 rfl (by rw [List.size_toArray, Lib.byteCells_length, hkl]; kernel_rfl)
    have HM92 : Hid (∀ w, Calls Tryz.prog 61 #[.agg (Lib.byteCells (keyP ky)).toArray, .int .u8 92] w fun e w' => e = .returned (.string (Ba (maskP (keyP ky) 92))) ∧ Below w.heap.size w w') := fun w => masked_any (keyP ky) 92 w hkl
    have HM54 : Hid (∀ w, Calls Tryz.prog 61 #[.agg (Lib.byteCells (keyP ky)).toArray, .int .u8 54] w fun e w' => e = .returned (.string (Ba (maskP (keyP ky) 54))) ∧ Below w.heap.size w w') := fun w => masked_any (keyP ky) 54 w hkl
    have HS1 : Hid (∀ w5 : World, Below w3.drew.heap.size w3.drew (w5.alloc (.cells #[.string (Ba (maskP (keyP ky) 54)), .string (Ba s)] 9)) → Calls Tryz.prog 60 #[.slice (some ⟨w5.heap.size, 0, none⟩) 2 2] (w5.alloc (.cells #[.string (Ba (maskP (keyP ky) 54)), .string (Ba s)] 9)) fun e w' => e = .returned (.string (Ba (sumP (maskP (keyP ky) 54 ++ s)))) ∧ Below (w5.alloc (.cells #[.string (Ba (maskP (keyP ky) 54)), .string (Ba s)] 9)).heap.size (w5.alloc (.cells #[.string (Ba (maskP (keyP ky) 54)), .string (Ba s)] 9)) w') := fun w5 hb => by
      have h := sumOf_any _ _ _ (strs2 w5 (maskP (keyP ky) 54) s) (fun x hx => by
        simp at hx
        rcases hx with rfl | rfl
        · rw [maskP_length, hkl]; unfold maxLen; decide
        · unfold maxLen; omega) (HCu.out.below hb)
      rw [show [maskP (keyP ky) 54, s].flatten = maskP (keyP ky) 54 ++ s by simp] at h
      exact h
    have HS2 : Hid (∀ w5 : World, Below w3.drew.heap.size w3.drew (w5.alloc (.cells #[.string (Ba (maskP (keyP ky) 92)), .string (Ba (sumP (maskP (keyP ky) 54 ++ s)))] 9)) → Calls Tryz.prog 60 #[.slice (some ⟨w5.heap.size, 0, none⟩) 2 2] (w5.alloc (.cells #[.string (Ba (maskP (keyP ky) 92)), .string (Ba (sumP (maskP (keyP ky) 54 ++ s)))] 9)) fun e w' => e = .returned (.string (Ba (macK ky s))) ∧ Below (w5.alloc (.cells #[.string (Ba (maskP (keyP ky) 92)), .string (Ba (sumP (maskP (keyP ky) 54 ++ s)))] 9)).heap.size (w5.alloc (.cells #[.string (Ba (maskP (keyP ky) 92)), .string (Ba (sumP (maskP (keyP ky) 54 ++ s)))] 9)) w') := fun w5 hb => by
      have h := sumOf_any _ _ _ (strs2 w5 (maskP (keyP ky) 92) (sumP (maskP (keyP ky) 54 ++ s))) (fun x hx => by
        simp at hx
        rcases hx with rfl | rfl
        · rw [maskP_length, hkl]; unfold maxLen; decide
        · rw [sumP_length]; unfold maxLen; decide) (HCu.out.below hb)
      rw [show [maskP (keyP ky) 92, sumP (maskP (keyP ky) 54 ++ s)].flatten = maskP (keyP ky) 92 ++ sumP (maskP (keyP ky) 54 ++ s) by simp] at h
      exact h
    clear hrow hb3 hkl hlt3
    generalize Ba (macK ky s) = mk at *
    clear hmr
    go_wp2_with fail
    refine M_begin 9 10 (fun w' => Below w3.drew.heap.size w3.drew w') (by kernel_rfl) rfl ?_
    have hHeld : (fun w' => Below w3.drew.heap.size w3.drew w') w3.drew := Below.refl _ _
    refine M_take 0 (oi := { dst := some 14, op := Op.load 78 (Operand.tmp 5), type := 78, pos := "seal.go:25", after := #[], guard := none }) (v := .agg (Lib.byteCells (keyP ky)).toArray) rfl (by kernel_rfl) (by kernel_rfl) (by kernel_rfl) (by kernel_rfl) (by kernel_rfl) (by decide) (by decide) (by kernel_rfl) (fun _ _ _ h => h) hHeld ?hyk0 ?_
    case hyk0 => exact Or.inl ⟨by rfl, fun w' hSw => load_run rfl rfl (HLd.out _ hSw)⟩
    try simp only [Act.put, List.setIfInBounds_toArray, List.set_cons_zero, List.set_cons_succ]
    refine M_take 2 (oi := { dst := some 16, op := Op.load 78 (Operand.tmp 5), type := 78, pos := "seal.go:25", after := #[], guard := none }) (v := .agg (Lib.byteCells (keyP ky)).toArray) rfl (by kernel_rfl) (by kernel_rfl) (by kernel_rfl) (by kernel_rfl) (by kernel_rfl) (by decide) (by decide) (by kernel_rfl) (fun _ _ _ h => h) hHeld ?hyk2 ?_
    case hyk2 => exact Or.inl ⟨by rfl, fun w' hSw => load_run rfl rfl (HLd.out _ hSw)⟩
    try simp only [Act.put, List.setIfInBounds_toArray, List.set_cons_zero, List.set_cons_succ]
    refine M_take 4 (oi := { dst := some 18, op := Op.move (Operand.tmp 1), type := 9, pos := "seal.go:25", after := #[], guard := none }) (v := ?vvk4) rfl (by kernel_rfl) (by kernel_rfl) (by kernel_rfl) (by kernel_rfl) (by kernel_rfl) (by decide) (by decide) (by kernel_rfl) (fun _ _ _ h => h) hHeld ?hyk4 ?_
    case hyk4 => exact (Or.inl ⟨by rfl, by (intro w' hSw; go_simp; try (with_reducible rfl))⟩)
    try simp only [Act.put, List.setIfInBounds_toArray, List.set_cons_zero, List.set_cons_succ]
    refine M_ready [1] (by kernel_rfl) (by decide) ?_
    refine AllM.cons (i := 1) (o := { dst := some 15, op := Op.call { callee := Callee.value (Operand.func 61), args := #[Operand.tmp 14, Operand.const (Value.int IntKind.u8 92)], argTypes := #[78, 5] }, type := 9, pos := "seal.go:25", after := #[{ on := 0, ground := Ground.data }], guard := none }) rfl (fun K hK => ?_) AllM.nil
    rw [if_pos (by rfl)]
    go_wp2_with fail
    refine Calls.mono (HM92.out _) ?_
    rintro e w4 ⟨rfl, bw4⟩
    dsimp only
    refine hK.out _ _ (hHeld.trans (bw4.mono hHeld.size)) (fun hHeld => ?_)
    clear hK K
    try simp only [Act.put, List.setIfInBounds_toArray, List.set_cons_zero, List.set_cons_succ]
    refine M_ready [3] (by kernel_rfl) (by decide) ?_
    refine AllM.cons (i := 3) (o := { dst := some 17, op := Op.call { callee := Callee.value (Operand.func 61), args := #[Operand.tmp 16, Operand.const (Value.int IntKind.u8 54)], argTypes := #[78, 5] }, type := 9, pos := "seal.go:25", after := #[{ on := 2, ground := Ground.data }, { on := 1, ground := Ground.chain }], guard := none }) rfl (fun K hK => ?_) AllM.nil
    rw [if_pos (by rfl)]
    go_wp2_with fail
    refine Calls.mono (HM54.out _) ?_
    rintro e w5 ⟨rfl, bw5⟩
    dsimp only
    refine hK.out _ _ (hHeld.trans (bw5.mono hHeld.size)) (fun hHeld => ?_)
    clear hK K
    try simp only [Act.put, List.setIfInBounds_toArray, List.set_cons_zero, List.set_cons_succ]
    refine M_ready [5] (by kernel_rfl) (by decide) ?_
    refine AllM.cons (i := 5) (o := { dst := some 19, op := Op.buildSlice 22 2 #[(0, Operand.tmp 17), (1, Operand.tmp 18)], type := 22, pos := "seal.go:25", after := #[{ on := 3, ground := Ground.data }, { on := 4, ground := Ground.data }], guard := none }) rfl (fun K hK => ?_) AllM.nil
    go_simp
    refine hK.out _ _ (hHeld.alloc hHeld.size _) (fun hHeld => ?_)
    clear hK K
    try simp only [Act.put, List.setIfInBounds_toArray, List.set_cons_zero, List.set_cons_succ]
    refine M_ready [6] (by kernel_rfl) (by decide) ?_
    refine AllM.cons (i := 6) (o := { dst := some 20, op := Op.call { callee := Callee.value (Operand.func 60), args := #[Operand.tmp 19], argTypes := #[22] }, type := 9, pos := "seal.go:25", after := #[{ on := 5, ground := Ground.data }, { on := 3, ground := Ground.chain }], guard := none }) rfl (fun K hK => ?_) AllM.nil
    rw [if_pos (by rfl)]
    go_wp2_with fail
    refine Calls.mono (HS1.out w5 hHeld) ?_
    rintro e w6 ⟨rfl, bw6⟩
    dsimp only
    refine hK.out _ _ (hHeld.trans (bw6.mono hHeld.size)) (fun hHeld => ?_)
    clear hK K
    try simp only [Act.put, List.setIfInBounds_toArray, List.set_cons_zero, List.set_cons_succ]
    refine M_ready [7] (by kernel_rfl) (by decide) ?_
    refine AllM.cons (i := 7) (o := { dst := some 21, op := Op.buildSlice 22 2 #[(0, Operand.tmp 15), (1, Operand.tmp 20)], type := 22, pos := "seal.go:25", after := #[{ on := 1, ground := Ground.data }, { on := 6, ground := Ground.data }], guard := none }) rfl (fun K hK => ?_) AllM.nil
    go_simp
    refine hK.out _ _ (hHeld.alloc hHeld.size _) (fun hHeld => ?_)
    clear hK K
    try simp only [Act.put, List.setIfInBounds_toArray, List.set_cons_zero, List.set_cons_succ]
    refine M_ready [8] (by kernel_rfl) (by decide) ?_
    refine AllM.cons (i := 8) (o := { dst := some 22, op := Op.call { callee := Callee.value (Operand.func 60), args := #[Operand.tmp 21], argTypes := #[22] }, type := 9, pos := "seal.go:25", after := #[{ on := 7, ground := Ground.data }, { on := 6, ground := Ground.chain }], guard := none }) rfl (fun K hK => ?_) AllM.nil
    rw [if_pos (by rfl)]
    go_wp2_with fail
    refine Calls.mono (HS2.out w6 hHeld) ?_
    rintro e w7 ⟨rfl, bw7⟩
    dsimp only
    refine hK.out _ _ (hHeld.trans (bw7.mono hHeld.size)) (fun hHeld => ?_)
    clear hK K
    try simp only [Act.put, List.setIfInBounds_toArray, List.set_cons_zero, List.set_cons_succ]
    refine M_tail [{ dst := some 4, op := Op.assign (Operand.tmp 22), type := 9, pos := "seal.go:25", after := #[{ on := 8, ground := Ground.data }, { on := 8, ground := Ground.chain }, { on := 0, ground := Ground.phase }, { on := 1, ground := Ground.phase }, { on := 2, ground := Ground.phase }, { on := 3, ground := Ground.phase }, { on := 4, ground := Ground.phase }, { on := 5, ground := Ground.phase }, { on := 6, ground := Ground.phase }, { on := 7, ground := Ground.phase }, { on := 8, ground := Ground.phase }], guard := none }] rfl (by kernel_rfl) (by kernel_rfl) ?_
    have HB7 : Hid (Below w.heap.size w w7) := HBR.out.drew.trans (hHeld.mono HBR.out.size)
    clear hHeld bw4 bw5 bw6 bw7
    go_wp2_with fail
    go_ret
    exact ⟨by rw [← HRes.out]; rfl, HB7.out⟩
  · have hnI : ¬ ((64 : Int) < (key.length : Int)) := by omega
    have hk64 : key.length ≤ 64 := by omega
    have HCub : Hid (Cub w) := hc
    have HB1 : Hid (Below w.heap.size w w) := Below.refl _ _
    unfold maxLen at hk hs
    go_enter Tryz.func36, Tryz.ntmps36
    obtain ⟨w3, hcp, hrow, hb3⟩ := key_copy w key hk64
    have hkl := keyP_length hk64
    have HRes : Hid (Ba (macK key s) = mres) := by show _ = _; rw [← hmr, macP, if_neg hbig]
    have HBR : Hid (Below w.heap.size w w3) := HB1.out.trans (hb3.mono HB1.out.size)
    have HCu : Hid (Cub w3.drew) := HCub.out.below HBR.out.drew
    have hlt3 : w.heap.size < w3.heap.size := lt_of_block hrow
    have HLd : Hid (∀ w', Below w3.drew.heap.size w3.drew w' → (loadVar 78 ⟨w.heap.size, 0, none⟩).run Tryz.prog w' = .ok (.agg (Lib.byteCells (keyP key)).toArray) w') := fun w' hb => by
      have hr : w'.heap[w.heap.size]? = some (.cells (Lib.byteCells (keyP key)).toArray 78 (0, 0)) := by
        rw [hb.block _ hlt3]
        exact hrow
      exact run_loadVar_row w' _ 78 78 _ (0, 0) _ hr Tryz.underlying78 rfl (by rw [List.size_toArray, Lib.byteCells_length, hkl]; kernel_rfl)
    have HM92 : Hid (∀ w, Calls Tryz.prog 61 #[.agg (Lib.byteCells (keyP key)).toArray, .int .u8 92] w fun e w' => e = .returned (.string (Ba (maskP (keyP key) 92))) ∧ Below w.heap.size w w') := fun w => masked_any (keyP key) 92 w hkl
    have HM54 : Hid (∀ w, Calls Tryz.prog 61 #[.agg (Lib.byteCells (keyP key)).toArray, .int .u8 54] w fun e w' => e = .returned (.string (Ba (maskP (keyP key) 54))) ∧ Below w.heap.size w w') := fun w => masked_any (keyP key) 54 w hkl
    have HS1 : Hid (∀ w5 : World, Below w3.drew.heap.size w3.drew (w5.alloc (.cells #[.string (Ba (maskP (keyP key) 54)), .string (Ba s)] 9)) → Calls Tryz.prog 60 #[.slice (some ⟨w5.heap.size, 0, none⟩) 2 2] (w5.alloc (.cells #[.string (Ba (maskP (keyP key) 54)), .string (Ba s)] 9)) fun e w' => e = .returned (.string (Ba (sumP (maskP (keyP key) 54 ++ s)))) ∧ Below (w5.alloc (.cells #[.string (Ba (maskP (keyP key) 54)), .string (Ba s)] 9)).heap.size (w5.alloc (.cells #[.string (Ba (maskP (keyP key) 54)), .string (Ba s)] 9)) w') := fun w5 hb => by
      have h := sumOf_any _ _ _ (strs2 w5 (maskP (keyP key) 54) s) (fun x hx => by
        simp at hx
        rcases hx with rfl | rfl
        · rw [maskP_length, hkl]; unfold maxLen; decide
        · unfold maxLen; omega) (HCu.out.below hb)
      rw [show [maskP (keyP key) 54, s].flatten = maskP (keyP key) 54 ++ s by simp] at h
      exact h
    have HS2 : Hid (∀ w5 : World, Below w3.drew.heap.size w3.drew (w5.alloc (.cells #[.string (Ba (maskP (keyP key) 92)), .string (Ba (sumP (maskP (keyP key) 54 ++ s)))] 9)) → Calls Tryz.prog 60 #[.slice (some ⟨w5.heap.size, 0, none⟩) 2 2] (w5.alloc (.cells #[.string (Ba (maskP (keyP key) 92)), .string (Ba (sumP (maskP (keyP key) 54 ++ s)))] 9)) fun e w' => e = .returned (.string (Ba (macK key s))) ∧ Below (w5.alloc (.cells #[.string (Ba (maskP (keyP key) 92)), .string (Ba (sumP (maskP (keyP key) 54 ++ s)))] 9)).heap.size (w5.alloc (.cells #[.string (Ba (maskP (keyP key) 92)), .string (Ba (sumP (maskP (keyP key) 54 ++ s)))] 9)) w') := fun w5 hb => by
      have h := sumOf_any _ _ _ (strs2 w5 (maskP (keyP key) 92) (sumP (maskP (keyP key) 54 ++ s))) (fun x hx => by
        simp at hx
        rcases hx with rfl | rfl
        · rw [maskP_length, hkl]; unfold maxLen; decide
        · rw [sumP_length]; unfold maxLen; decide) (HCu.out.below hb)
      rw [show [maskP (keyP key) 92, sumP (maskP (keyP key) 54 ++ s)].flatten = maskP (keyP key) 92 ++ sumP (maskP (keyP key) 54 ++ s) by simp] at h
      exact h
    clear hrow hb3 hkl hlt3
    generalize Ba (macK key s) = mk at *
    clear hmr
    go_wp2_with fail
    refine M_begin 9 10 (fun w' => Below w3.drew.heap.size w3.drew w') (by kernel_rfl) rfl ?_
    have hHeld : (fun w' => Below w3.drew.heap.size w3.drew w') w3.drew := Below.refl _ _
    refine M_take 0 (oi := { dst := some 14, op := Op.load 78 (Operand.tmp 5), type := 78, pos := "seal.go:25", after := #[], guard := none }) (v := .agg (Lib.byteCells (keyP key)).toArray) rfl (by kernel_rfl) (by kernel_rfl) (by kernel_rfl) (by kernel_rfl) (by kernel_rfl) (by decide) (by decide) (by kernel_rfl) (fun _ _ _ h => h) hHeld ?hyk0 ?_
    case hyk0 => exact Or.inl ⟨by rfl, fun w' hSw => load_run rfl rfl (HLd.out _ hSw)⟩
    try simp only [Act.put, List.setIfInBounds_toArray, List.set_cons_zero, List.set_cons_succ]
    refine M_take 2 (oi := { dst := some 16, op := Op.load 78 (Operand.tmp 5), type := 78, pos := "seal.go:25", after := #[], guard := none }) (v := .agg (Lib.byteCells (keyP key)).toArray) rfl (by kernel_rfl) (by kernel_rfl) (by kernel_rfl) (by kernel_rfl) (by kernel_rfl) (by decide) (by decide) (by kernel_rfl) (fun _ _ _ h => h) hHeld ?hyk2 ?_
    case hyk2 => exact Or.inl ⟨by rfl, fun w' hSw => load_run rfl rfl (HLd.out _ hSw)⟩
    try simp only [Act.put, List.setIfInBounds_toArray, List.set_cons_zero, List.set_cons_succ]
    refine M_take 4 (oi := { dst := some 18, op := Op.move (Operand.tmp 1), type := 9, pos := "seal.go:25", after := #[], guard := none }) (v := ?vvk4) rfl (by kernel_rfl) (by kernel_rfl) (by kernel_rfl) (by kernel_rfl) (by kernel_rfl) (by decide) (by decide) (by kernel_rfl) (fun _ _ _ h => h) hHeld ?hyk4 ?_
    case hyk4 => exact (Or.inl ⟨by rfl, by (intro w' hSw; go_simp; try (with_reducible rfl))⟩)
    try simp only [Act.put, List.setIfInBounds_toArray, List.set_cons_zero, List.set_cons_succ]
    refine M_ready [1] (by kernel_rfl) (by decide) ?_
    refine AllM.cons (i := 1) (o := { dst := some 15, op := Op.call { callee := Callee.value (Operand.func 61), args := #[Operand.tmp 14, Operand.const (Value.int IntKind.u8 92)], argTypes := #[78, 5] }, type := 9, pos := "seal.go:25", after := #[{ on := 0, ground := Ground.data }], guard := none }) rfl (fun K hK => ?_) AllM.nil
    rw [if_pos (by rfl)]
    go_wp2_with fail
    refine Calls.mono (HM92.out _) ?_
    rintro e w4 ⟨rfl, bw4⟩
    dsimp only
    refine hK.out _ _ (hHeld.trans (bw4.mono hHeld.size)) (fun hHeld => ?_)
    clear hK K
    try simp only [Act.put, List.setIfInBounds_toArray, List.set_cons_zero, List.set_cons_succ]
    refine M_ready [3] (by kernel_rfl) (by decide) ?_
    refine AllM.cons (i := 3) (o := { dst := some 17, op := Op.call { callee := Callee.value (Operand.func 61), args := #[Operand.tmp 16, Operand.const (Value.int IntKind.u8 54)], argTypes := #[78, 5] }, type := 9, pos := "seal.go:25", after := #[{ on := 2, ground := Ground.data }, { on := 1, ground := Ground.chain }], guard := none }) rfl (fun K hK => ?_) AllM.nil
    rw [if_pos (by rfl)]
    go_wp2_with fail
    refine Calls.mono (HM54.out _) ?_
    rintro e w5 ⟨rfl, bw5⟩
    dsimp only
    refine hK.out _ _ (hHeld.trans (bw5.mono hHeld.size)) (fun hHeld => ?_)
    clear hK K
    try simp only [Act.put, List.setIfInBounds_toArray, List.set_cons_zero, List.set_cons_succ]
    refine M_ready [5] (by kernel_rfl) (by decide) ?_
    refine AllM.cons (i := 5) (o := { dst := some 19, op := Op.buildSlice 22 2 #[(0, Operand.tmp 17), (1, Operand.tmp 18)], type := 22, pos := "seal.go:25", after := #[{ on := 3, ground := Ground.data }, { on := 4, ground := Ground.data }], guard := none }) rfl (fun K hK => ?_) AllM.nil
    go_simp
    refine hK.out _ _ (hHeld.alloc hHeld.size _) (fun hHeld => ?_)
    clear hK K
    try simp only [Act.put, List.setIfInBounds_toArray, List.set_cons_zero, List.set_cons_succ]
    refine M_ready [6] (by kernel_rfl) (by decide) ?_
    refine AllM.cons (i := 6) (o := { dst := some 20, op := Op.call { callee := Callee.value (Operand.func 60), args := #[Operand.tmp 19], argTypes := #[22] }, type := 9, pos := "seal.go:25", after := #[{ on := 5, ground := Ground.data }, { on := 3, ground := Ground.chain }], guard := none }) rfl (fun K hK => ?_) AllM.nil
    rw [if_pos (by rfl)]
    go_wp2_with fail
    refine Calls.mono (HS1.out w5 hHeld) ?_
    rintro e w6 ⟨rfl, bw6⟩
    dsimp only
    refine hK.out _ _ (hHeld.trans (bw6.mono hHeld.size)) (fun hHeld => ?_)
    clear hK K
    try simp only [Act.put, List.setIfInBounds_toArray, List.set_cons_zero, List.set_cons_succ]
    refine M_ready [7] (by kernel_rfl) (by decide) ?_
    refine AllM.cons (i := 7) (o := { dst := some 21, op := Op.buildSlice 22 2 #[(0, Operand.tmp 15), (1, Operand.tmp 20)], type := 22, pos := "seal.go:25", after := #[{ on := 1, ground := Ground.data }, { on := 6, ground := Ground.data }], guard := none }) rfl (fun K hK => ?_) AllM.nil
    go_simp
    refine hK.out _ _ (hHeld.alloc hHeld.size _) (fun hHeld => ?_)
    clear hK K
    try simp only [Act.put, List.setIfInBounds_toArray, List.set_cons_zero, List.set_cons_succ]
    refine M_ready [8] (by kernel_rfl) (by decide) ?_
    refine AllM.cons (i := 8) (o := { dst := some 22, op := Op.call { callee := Callee.value (Operand.func 60), args := #[Operand.tmp 21], argTypes := #[22] }, type := 9, pos := "seal.go:25", after := #[{ on := 7, ground := Ground.data }, { on := 6, ground := Ground.chain }], guard := none }) rfl (fun K hK => ?_) AllM.nil
    rw [if_pos (by rfl)]
    go_wp2_with fail
    refine Calls.mono (HS2.out w6 hHeld) ?_
    rintro e w7 ⟨rfl, bw7⟩
    dsimp only
    refine hK.out _ _ (hHeld.trans (bw7.mono hHeld.size)) (fun hHeld => ?_)
    clear hK K
    try simp only [Act.put, List.setIfInBounds_toArray, List.set_cons_zero, List.set_cons_succ]
    refine M_tail [{ dst := some 4, op := Op.assign (Operand.tmp 22), type := 9, pos := "seal.go:25", after := #[{ on := 8, ground := Ground.data }, { on := 8, ground := Ground.chain }, { on := 0, ground := Ground.phase }, { on := 1, ground := Ground.phase }, { on := 2, ground := Ground.phase }, { on := 3, ground := Ground.phase }, { on := 4, ground := Ground.phase }, { on := 5, ground := Ground.phase }, { on := 6, ground := Ground.phase }, { on := 7, ground := Ground.phase }, { on := 8, ground := Ground.phase }], guard := none }] rfl (by kernel_rfl) (by kernel_rfl) ?_
    have HB7 : Hid (Below w.heap.size w w7) := HBR.out.drew.trans (hHeld.mono HBR.out.size)
    clear hHeld bw4 bw5 bw6 bw7
    go_wp2_with fail
    go_ret
    exact ⟨by rw [← HRes.out]; rfl, HB7.out⟩
end Go.Proofs.YtmbpjbghhimedaaGreatDoor
