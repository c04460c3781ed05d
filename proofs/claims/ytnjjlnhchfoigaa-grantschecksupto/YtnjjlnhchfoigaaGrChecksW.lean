/- The walk of the law GrantsChecks over this translation. -/
import Derived.Test.YtnjjlnhchfoigaaGrFlC
import Derived.Test.YtnjjlnhchfoigaaGrFlA
import Derived.Test.YtnjjlnhchfoigaaRfOrd
namespace Go.Proofs.Ytnjjlnhchfoigaa
open Go.RowKit
set_option linter.unusedVariables false
set_option linter.unusedSimpArgs false
theorem bxs24 {w w1 : World} {a b e f g h : Value} {t r : TypeId} (hh : Below ((w.alloc (.cells #[a, b] t)).alloc (.cells #[e, f, g, h] r)).heap.size ((w.alloc (.cells #[a, b] t)).alloc (.cells #[e, f, g, h] r)) w1) :
    (w1.cell? ⟨w.heap.size, 0, none⟩ = some a ∧ w1.cell? ⟨w.heap.size, 1, none⟩ = some b) ∧ w1.cell? ⟨w.heap.size + 1, 0, none⟩ = some e ∧ w1.cell? ⟨w.heap.size + 1, 1, none⟩ = some f ∧ w1.cell? ⟨w.heap.size + 1, 2, none⟩ = some g ∧ w1.cell? ⟨w.heap.size + 1, 3, none⟩ = some h := by
  have h0 : Below (w.alloc (.cells #[a, b] t)).heap.size (w.alloc (.cells #[a, b] t)) w1 := ((Below.refl _ _).alloc (Nat.le_refl _) _).trans (hh.mono (by simp))
  refine ⟨gbox2 h0, ?_⟩
  have k := bx4 hh
  have hs : (w.alloc (.cells #[a, b] t)).heap.size = w.heap.size + 1 := by simp
  rw [hs] at k
  exact k
set_option maxRecDepth 100000 in
set_option maxHeartbeats 4000000 in
theorem checks_walk (u v : Value) (rs : List Ro) (bs : List Bi) (a : Ak) (w : World) (hg : Grs w u v rs bs) (hN : grN rs bs ≤ 10000000000000) (hfa : FitA a) :
    Calls Try.prog 3 #[.agg #[u, v], askV a] w fun e w' => e = .returned (.bool true) ∧ Below w.heap.size w w' := by
  obtain ⟨p, c, rfl, hn1⟩ := Sq.form hg.ros
  obtain ⟨p2, c2, rfl, hn2⟩ := Sq.form hg.bis
  have HG1 : Hid (∀ w1, Below w.heap.size w w1 → Calls Try.prog 7 #[.agg #[.slice p rs.length c, .slice p2 bs.length c2]] w1 fun e w' => e = .returned (.int .i64 (grI rs bs)) ∧ Below w1.heap.size w1 w') := fun w1 hb => grants_any _ _ rs bs w1 (hg.below hb)
  have HG2 : Hid (∀ w1, Below w.heap.size w w1 → Calls Try.prog 8 #[.agg #[.slice p rs.length c, .slice p2 bs.length c2]] w1 fun e w' => e = .returned (.int .i64 (grI rs bs)) ∧ Below w1.heap.size w1 w') := fun w1 hb => grantsR_any _ _ rs bs w1 (hg.below hb) hN
  have HA1 : Hid (∀ w1, Calls Try.prog 9 #[askV a] w1 fun e w' => e = .returned (.int .i64 (askI a)) ∧ Below w1.heap.size w1 w') := fun w1 => ask_any a w1 hfa
  have HA2 : Hid (∀ w1, Calls Try.prog 10 #[askV a] w1 fun e w' => e = .returned (.int .i64 (askI a)) ∧ Below w1.heap.size w1 w') := fun w1 => askR_any a w1 hfa
  clear hg hN hfa
  generalize grI rs bs = e1 at *
  generalize askI a = e2 at *
  obtain ⟨vb, kd, sp, nm⟩ := a
  dsimp only [askV] at *
  generalize rs.length = l1 at *
  generalize bs.length = l2 at *
  generalize Ba vb = s1 at *
  generalize Ba kd = s2 at *
  generalize Ba sp = s3 at *
  generalize Ba nm = s4 at *
  have HBx : Hid (∀ w1, Below ((w.alloc (.cells #[.slice p l1 c, .slice p2 l2 c2] 25)).alloc (.cells #[.string s1, .string s2, .string s3, .string s4] 27)).heap.size ((w.alloc (.cells #[.slice p l1 c, .slice p2 l2 c2] 25)).alloc (.cells #[.string s1, .string s2, .string s3, .string s4] 27)) w1 →
      (w1.cell? ⟨w.heap.size, 0, none⟩ = some (.slice p l1 c) ∧ w1.cell? ⟨w.heap.size, 1, none⟩ = some (.slice p2 l2 c2)) ∧ w1.cell? ⟨w.heap.size + 1, 0, none⟩ = some (.string s1) ∧ w1.cell? ⟨w.heap.size + 1, 1, none⟩ = some (.string s2) ∧ w1.cell? ⟨w.heap.size + 1, 2, none⟩ = some (.string s3) ∧ w1.cell? ⟨w.heap.size + 1, 3, none⟩ = some (.string s4)) := fun w1 h => bxs24 h
  obtain ⟨w0, hw0⟩ : ∃ w0, w0 = (w.alloc (.cells #[.slice p l1 c, .slice p2 l2 c2] 25)).alloc (.cells #[.string s1, .string s2, .string s3, .string s4] 27) := ⟨_, rfl⟩
  have hB0 : Below w.heap.size w w0 := by rw [hw0]; exact ((Below.refl _ _).alloc (Nat.le_refl _) _).alloc (by simp) _
  have HB0 : Hid (Below w.heap.size w w0) := hB0
  rw [← hw0] at HBx
  have HW0 : Hid (w0 = (w.alloc (.cells #[.slice p l1 c, .slice p2 l2 c2] 25)).alloc (.cells #[.string s1, .string s2, .string s3, .string s4] 27)) := hw0
  clear hw0 hB0
  unfold maxLen at hn1 hn2
  go_enter Try.func3, Try.ntmps3
  go_wp2_with fail
  rw [← HW0.out]
  refine M_begin 12 13 (fun w' => Below w0.heap.size w0 w') (by kernel_rfl) rfl ?_
  have hHeld : (fun w' => Below w0.heap.size w0 w') w0.drew := (Below.refl _ _).drew
  refine M_take 0 (oi := { dst := some 5, op := Op.load 25 (Operand.tmp 2), type := 25, pos := "low.go:196", after := #[], guard := none }) (v := .agg #[.slice p l1 c, .slice p2 l2 c2]) rfl (by kernel_rfl) (by kernel_rfl) (by kernel_rfl) (by kernel_rfl) (by kernel_rfl) (by decide) (by decide) (by kernel_rfl) (fun _ _ _ h => h) hHeld ?hy1 ?_
  case hy1 => exact (Or.inl ⟨by rfl, by (intro w' hSw; obtain ⟨⟨z0, z1⟩, z2, z3, z4, z5⟩ := HBx.out w' hSw; go_simp; try (with_reducible rfl))⟩)
  try simp only [Act.put, List.setIfInBounds_toArray, List.set_cons_zero, List.set_cons_succ]
  refine M_take 2 (oi := { dst := some 7, op := Op.load 25 (Operand.tmp 2), type := 25, pos := "low.go:196", after := #[], guard := none }) (v := .agg #[.slice p l1 c, .slice p2 l2 c2]) rfl (by kernel_rfl) (by kernel_rfl) (by kernel_rfl) (by kernel_rfl) (by kernel_rfl) (by decide) (by decide) (by kernel_rfl) (fun _ _ _ h => h) hHeld ?hy2 ?_
  case hy2 => exact (Or.inl ⟨by rfl, by (intro w' hSw; obtain ⟨⟨z0, z1⟩, z2, z3, z4, z5⟩ := HBx.out w' hSw; go_simp; try (with_reducible rfl))⟩)
  try simp only [Act.put, List.setIfInBounds_toArray, List.set_cons_zero, List.set_cons_succ]
  refine M_ready [1] (by kernel_rfl) (by decide) ?_
  refine AllM.cons (i := 1) (o := { dst := some 6, op := Op.call { callee := Callee.value (Operand.func 7), args := #[Operand.tmp 5], argTypes := #[25] }, type := 28, pos := "low.go:196", after := #[{ on := 0, ground := Ground.data }], guard := none }) rfl (fun K hK => ?_) AllM.nil
  rw [if_pos (by rfl)]
  go_wp2_with fail
  refine Calls.mono (HG1.out _ (HB0.out.trans (hHeld.mono HB0.out.size))) ?_
  rintro e wa ⟨rfl, bb⟩
  dsimp only
  refine hK.out _ _ (hHeld.trans (bb.mono hHeld.size)) (fun hHeld2 => ?_)
  clear hK K hHeld bb
  have hHeld := hHeld2
  clear hHeld2
  try simp only [Act.put, List.setIfInBounds_toArray, List.set_cons_zero, List.set_cons_succ]
  refine M_ready [3] (by kernel_rfl) (by decide) ?_
  refine AllM.cons (i := 3) (o := { dst := some 8, op := Op.call { callee := Callee.value (Operand.func 8), args := #[Operand.tmp 7], argTypes := #[25] }, type := 28, pos := "low.go:196", after := #[{ on := 2, ground := Ground.data }, { on := 1, ground := Ground.chain }], guard := none }) rfl (fun K hK => ?_) AllM.nil
  rw [if_pos (by rfl)]
  go_wp2_with fail
  refine Calls.mono (HG2.out _ (HB0.out.trans (hHeld.mono HB0.out.size))) ?_
  rintro e wb ⟨rfl, bb⟩
  dsimp only
  refine hK.out _ _ (hHeld.trans (bb.mono hHeld.size)) (fun hHeld2 => ?_)
  clear hK K hHeld bb
  have hHeld := hHeld2
  clear hHeld2
  try simp only [Act.put, List.setIfInBounds_toArray, List.set_cons_zero, List.set_cons_succ]
  refine M_take 4 (oi := { dst := some 9, op := Op.binOp BinOp.eql 28 (Operand.tmp 6) (Operand.tmp 8) 28, type := 4, pos := "low.go:196", after := #[{ on := 1, ground := Ground.data }, { on := 3, ground := Ground.data }], guard := none }) (v := .bool true) rfl (by kernel_rfl) (by kernel_rfl) (by kernel_rfl) (by kernel_rfl) (by kernel_rfl) (by decide) (by decide) (by kernel_rfl) (fun _ _ _ h => h) hHeld ?hy3 ?_
  case hy3 => exact (Or.inl ⟨by rfl, by (intro w' hSw; go_simp; try (with_reducible rfl))⟩)
  try simp only [Act.put, List.setIfInBounds_toArray, List.set_cons_zero, List.set_cons_succ]
  refine M_take 5 (oi := { dst := some 10, op := Op.move (Operand.tmp 9), type := 4, pos := "low.go:196", after := #[{ on := 4, ground := Ground.data }, { on := 3, ground := Ground.chain }], guard := none }) (v := .bool true) rfl (by kernel_rfl) (by kernel_rfl) (by kernel_rfl) (by kernel_rfl) (by kernel_rfl) (by decide) (by decide) (by kernel_rfl) (fun _ _ _ h => h) hHeld ?hy4 ?_
  case hy4 => exact (Or.inl ⟨by rfl, by (intro w' hSw; go_simp; try (with_reducible rfl))⟩)
  try simp only [Act.put, List.setIfInBounds_toArray, List.set_cons_zero, List.set_cons_succ]
  refine M_take 6 (oi := { dst := some 11, op := Op.load 27 (Operand.tmp 3), type := 27, pos := "low.go:196", after := #[{ on := 5, ground := Ground.guard }], guard := some (5, true) }) (v := .agg #[.string s1, .string s2, .string s3, .string s4]) rfl (by kernel_rfl) (by kernel_rfl) (by kernel_rfl) (by kernel_rfl) (by kernel_rfl) (by decide) (by decide) (by kernel_rfl) (fun _ _ _ h => h) hHeld ?hy5 ?_
  case hy5 => exact (Or.inl ⟨by rfl, by (intro w' hSw; obtain ⟨⟨z0, z1⟩, z2, z3, z4, z5⟩ := HBx.out w' hSw; go_simp; try (with_reducible rfl))⟩)
  try simp only [Act.put, List.setIfInBounds_toArray, List.set_cons_zero, List.set_cons_succ]
  refine M_take 8 (oi := { dst := some 13, op := Op.load 27 (Operand.tmp 3), type := 27, pos := "low.go:196", after := #[{ on := 5, ground := Ground.guard }], guard := some (5, true) }) (v := .agg #[.string s1, .string s2, .string s3, .string s4]) rfl (by kernel_rfl) (by kernel_rfl) (by kernel_rfl) (by kernel_rfl) (by kernel_rfl) (by decide) (by decide) (by kernel_rfl) (fun _ _ _ h => h) hHeld ?hy6 ?_
  case hy6 => exact (Or.inl ⟨by rfl, by (intro w' hSw; obtain ⟨⟨z0, z1⟩, z2, z3, z4, z5⟩ := HBx.out w' hSw; go_simp; try (with_reducible rfl))⟩)
  try simp only [Act.put, List.setIfInBounds_toArray, List.set_cons_zero, List.set_cons_succ]
  refine M_ready [7] (by kernel_rfl) (by decide) ?_
  refine AllM.cons (i := 7) (o := { dst := some 12, op := Op.call { callee := Callee.value (Operand.func 9), args := #[Operand.tmp 11], argTypes := #[27] }, type := 28, pos := "low.go:196", after := #[{ on := 6, ground := Ground.data }, { on := 5, ground := Ground.chain }, { on := 5, ground := Ground.guard }], guard := some (5, true) }) rfl (fun K hK => ?_) AllM.nil
  rw [if_pos (by rfl)]
  go_wp2_with fail
  refine Calls.mono (HA1.out _) ?_
  rintro e wc ⟨rfl, bb⟩
  dsimp only
  refine hK.out _ _ (hHeld.trans (bb.mono hHeld.size)) (fun hHeld2 => ?_)
  clear hK K hHeld bb
  have hHeld := hHeld2
  clear hHeld2
  try simp only [Act.put, List.setIfInBounds_toArray, List.set_cons_zero, List.set_cons_succ]
  refine M_ready [9] (by kernel_rfl) (by decide) ?_
  refine AllM.cons (i := 9) (o := { dst := some 14, op := Op.call { callee := Callee.value (Operand.func 10), args := #[Operand.tmp 13], argTypes := #[27] }, type := 28, pos := "low.go:196", after := #[{ on := 8, ground := Ground.data }, { on := 7, ground := Ground.chain }, { on := 5, ground := Ground.guard }], guard := some (5, true) }) rfl (fun K hK => ?_) AllM.nil
  rw [if_pos (by rfl)]
  go_wp2_with fail
  refine Calls.mono (HA2.out _) ?_
  rintro e wd ⟨rfl, bb⟩
  dsimp only
  refine hK.out _ _ (hHeld.trans (bb.mono hHeld.size)) (fun hHeld2 => ?_)
  clear hK K hHeld bb
  have hHeld := hHeld2
  clear hHeld2
  try simp only [Act.put, List.setIfInBounds_toArray, List.set_cons_zero, List.set_cons_succ]
  refine M_take 10 (oi := { dst := some 15, op := Op.binOp BinOp.eql 28 (Operand.tmp 12) (Operand.tmp 14) 28, type := 4, pos := "low.go:196", after := #[{ on := 7, ground := Ground.data }, { on := 9, ground := Ground.data }, { on := 5, ground := Ground.guard }], guard := some (5, true) }) (v := .bool true) rfl (by kernel_rfl) (by kernel_rfl) (by kernel_rfl) (by kernel_rfl) (by kernel_rfl) (by decide) (by decide) (by kernel_rfl) (fun _ _ _ h => h) hHeld ?hy7 ?_
  case hy7 => exact (Or.inl ⟨by rfl, by (intro w' hSw; go_simp; try (with_reducible rfl))⟩)
  try simp only [Act.put, List.setIfInBounds_toArray, List.set_cons_zero, List.set_cons_succ]
  refine M_take 11 (oi := { dst := some 16, op := Op.pick (Operand.tmp 10) (Operand.tmp 15) (Operand.const (Value.bool false)), type := 4, pos := "low.go:196", after := #[{ on := 5, ground := Ground.data }, { on := 10, ground := Ground.data }], guard := none }) (v := .bool true) rfl (by kernel_rfl) (by kernel_rfl) (by kernel_rfl) (by kernel_rfl) (by kernel_rfl) (by decide) (by decide) (by kernel_rfl) (fun _ _ _ h => h) hHeld ?hy8 ?_
  case hy8 => exact (Or.inl ⟨by rfl, by (intro w' hSw; go_simp; try (with_reducible rfl))⟩)
  try simp only [Act.put, List.setIfInBounds_toArray, List.set_cons_zero, List.set_cons_succ]
  refine M_tail [{ dst := some 4, op := Op.assign (Operand.tmp 16), type := 4, pos := "low.go:196", after := #[{ on := 11, ground := Ground.data }, { on := 9, ground := Ground.chain }, { on := 0, ground := Ground.phase }, { on := 1, ground := Ground.phase }, { on := 2, ground := Ground.phase }, { on := 3, ground := Ground.phase }, { on := 4, ground := Ground.phase }, { on := 5, ground := Ground.phase }, { on := 6, ground := Ground.phase }, { on := 7, ground := Ground.phase }, { on := 8, ground := Ground.phase }, { on := 9, ground := Ground.phase }, { on := 10, ground := Ground.phase }, { on := 11, ground := Ground.phase }], guard := none }] rfl (by kernel_rfl) (by kernel_rfl) ?_
  have HB4 : Hid (Below w.heap.size w wd) := HB0.out.trans (hHeld.mono HB0.out.size)
  clear hHeld
  go_wp2_with fail
  go_ret
  exact ⟨rfl, HB4.out⟩
end Go.Proofs.Ytnjjlnhchfoigaa
