/- The walk of the law GrantsSays over this translation. -/
import Derived.Test.YtnjjlnhchfoigaaGrSaysR
import Derived.Test.YtnjjlnhchfoigaaGrSame
namespace Go.Proofs.Ytnjjlnhchfoigaa
open Go.RowKit
set_option linter.unusedVariables false
set_option linter.unusedSimpArgs false
set_option maxRecDepth 100000 in
set_option maxHeartbeats 8000000 in
theorem says_walk (u v x : Value) (rs : List Ro) (bs : List Bi) (n : Bs) (gs : List Bs) (t : Bs) (a : Ak) (w : World) (hg : Grs w u v rs bs) (hx : Strs w x gs) (hn : n.length ≤ maxLen) (hfg : FitS gs) (ht : t.length ≤ maxLen) (hfa : FitA a) (hN : grN rs bs ≤ 10000000000000) :
    Calls Try.prog 4 #[.agg #[u, v], .agg #[.string (Ba n), x], .string (Ba t), askV a] w fun e w' => e = .returned (.bool true) ∧ Below w.heap.size w w' := by
  obtain ⟨p, c, rfl, hn1⟩ := Sq.form hg.ros
  obtain ⟨p2, c2, rfl, hn2⟩ := Sq.form hg.bis
  obtain ⟨px, cx, rfl, hnx⟩ := hx.form
  have HH1 : Hid (∀ w1, Below w.heap.size w w1 → Calls Try.prog 11 #[.agg #[.slice p rs.length c, .slice p2 bs.length c2], .agg #[.string (Ba n), .slice px gs.length cx], .string (Ba t)] w1 fun e w' => ∃ p c, e = .returned (.tuple #[.slice p (heldE rs bs n gs t).length c, .int .i64 (whyI rs bs n gs t)]) ∧ Rls w' (.slice p (heldE rs bs n gs t).length c) (heldE rs bs n gs t) ∧ Below w1.heap.size w1 w') := fun w1 hb => by
    refine (heldT_any _ _ _ rs bs n gs t w1 (hg.below hb) (hx.below hb) hn hfg ht).mono ?_
    rintro e w2 ⟨y, rfl, ht, b2⟩
    obtain ⟨p, c, rfl, _⟩ := Sq.form ht.rls
    exact ⟨p, c, rfl, ht.rls, b2⟩
  have HH2 : Hid (∀ w1, Below w.heap.size w w1 → Calls Try.prog 12 #[.agg #[.slice p rs.length c, .slice p2 bs.length c2], .agg #[.string (Ba n), .slice px gs.length cx], .string (Ba t)] w1 fun e w' => ∃ p c, e = .returned (.tuple #[.slice p (heldE rs bs n gs t).length c, .int .i64 (whyI rs bs n gs t)]) ∧ Rls w' (.slice p (heldE rs bs n gs t).length c) (heldE rs bs n gs t) ∧ Below w1.heap.size w1 w') := fun w1 hb => by
    refine (heldRT_any _ _ _ rs bs n gs t w1 (hg.below hb) (hx.below hb) hn hfg ht hN).mono ?_
    rintro e w2 ⟨y, rfl, hr, b2⟩
    obtain ⟨p, c, rfl, _⟩ := Sq.form hr
    exact ⟨p, c, rfl, hr, b2⟩
  have HM1 : Hid (∀ w1, Below w.heap.size w w1 → Calls Try.prog 13 #[.agg #[.slice p rs.length c, .slice p2 bs.length c2], .agg #[.string (Ba n), .slice px gs.length cx], askV a] w1 fun e w' => e = .returned (.tuple #[.bool (mayB rs bs n gs a), .int .i64 (whyMayI rs bs n gs a)]) ∧ Below w1.heap.size w1 w') := fun w1 hb => may_any _ _ _ rs bs n gs a w1 (hg.below hb) (hx.below hb) hn hfg hfa
  have HM2 : Hid (∀ w1, Below w.heap.size w w1 → Calls Try.prog 14 #[.agg #[.slice p rs.length c, .slice p2 bs.length c2], .agg #[.string (Ba n), .slice px gs.length cx], askV a] w1 fun e w' => e = .returned (.tuple #[.bool (mayB rs bs n gs a), .int .i64 (whyMayI rs bs n gs a)]) ∧ Below w1.heap.size w1 w') := fun w1 hb => mayR_any _ _ _ rs bs n gs a w1 (hg.below hb) (hx.below hb) hn hfg hfa hN
  have HSA : Hid (∀ p c p' c' w1, Rls w1 (.slice p (heldE rs bs n gs t).length c) (heldE rs bs n gs t) → Rls w1 (.slice p' (heldE rs bs n gs t).length c') (heldE rs bs n gs t) → Calls Try.prog 15 #[.slice p (heldE rs bs n gs t).length c, .slice p' (heldE rs bs n gs t).length c', .func (.func 16) #[] #[]] w1 fun e w' => e = .returned (.bool true) ∧ Below w1.heap.size w1 w') := fun p c p' c' w1 h1 h2 => sameAll_any _ _ _ w1 h1 h2
  have HA1 : Hid (∀ p c w1, Rls w1 (.slice p (heldE rs bs n gs t).length c) (heldE rs bs n gs t) → Calls Try.prog 17 #[.slice p (heldE rs bs n gs t).length c, askV a] w1 fun e w' => e = .returned (.bool (allB (heldE rs bs n gs t) a)) ∧ Below w1.heap.size w1 w') := fun p c w1 h => allows_any _ _ _ w1 h
  have HA2 : Hid (∀ p c w1, Rls w1 (.slice p (heldE rs bs n gs t).length c) (heldE rs bs n gs t) → Calls Try.prog 18 #[.slice p (heldE rs bs n gs t).length c, askV a] w1 fun e w' => e = .returned (.bool (allB (heldE rs bs n gs t) a)) ∧ Below w1.heap.size w1 w') := fun p c w1 h => allowsR_any _ _ _ w1 h
  have HR1 : Hid (∀ (p : Option Addr) (c : Nat) (w1 w2 : World), Rls w1 (.slice p (heldE rs bs n gs t).length c) (heldE rs bs n gs t) → Below w1.heap.size w1 w2 → Rls w2 (.slice p (heldE rs bs n gs t).length c) (heldE rs bs n gs t)) := fun p c w1 w2 h hb => Sq.below rlAt_stays h hb
  clear hg hx hn hfg ht hfa hN
  generalize heldE rs bs n gs t = R at *
  generalize whyI rs bs n gs t = e1 at *
  generalize mayB rs bs n gs a = x1 at *
  generalize whyMayI rs bs n gs a = e2 at *
  generalize allB R a = al at *
  obtain ⟨vb, kd, sp, nm⟩ := a
  dsimp only [askV] at *
  generalize rs.length = l1 at *
  generalize bs.length = l2 at *
  generalize gs.length = l3 at *
  generalize Ba n = yn at *
  generalize Ba t = yt at *
  generalize Ba vb = s1 at *
  generalize Ba kd = s2 at *
  generalize Ba sp = s3 at *
  generalize Ba nm = s4 at *
  have HBx : Hid (∀ w1, Below (((w.alloc (.cells #[.slice p l1 c, .slice p2 l2 c2] 25)).alloc (.cells #[.string yn, .slice px l3 cx] 34)).alloc (.cells #[.string s1, .string s2, .string s3, .string s4] 27)).heap.size (((w.alloc (.cells #[.slice p l1 c, .slice p2 l2 c2] 25)).alloc (.cells #[.string yn, .slice px l3 cx] 34)).alloc (.cells #[.string s1, .string s2, .string s3, .string s4] 27)) w1 →
      (w1.cell? ⟨w.heap.size, 0, none⟩ = some (.slice p l1 c) ∧ w1.cell? ⟨w.heap.size, 1, none⟩ = some (.slice p2 l2 c2) ∧ w1.cell? ⟨w.heap.size + 1, 0, none⟩ = some (.string yn) ∧ w1.cell? ⟨w.heap.size + 1, 1, none⟩ = some (.slice px l3 cx)) ∧
      w1.cell? ⟨w.heap.size + 2, 0, none⟩ = some (.string s1) ∧ w1.cell? ⟨w.heap.size + 2, 1, none⟩ = some (.string s2) ∧ w1.cell? ⟨w.heap.size + 2, 2, none⟩ = some (.string s3) ∧ w1.cell? ⟨w.heap.size + 2, 3, none⟩ = some (.string s4)) := fun w1 h => bxs3 h
  obtain ⟨w0, hw0⟩ : ∃ w0, w0 = ((w.alloc (.cells #[.slice p l1 c, .slice p2 l2 c2] 25)).alloc (.cells #[.string yn, .slice px l3 cx] 34)).alloc (.cells #[.string s1, .string s2, .string s3, .string s4] 27) := ⟨_, rfl⟩
  have hB0 : Below w.heap.size w w0 := by rw [hw0]; exact (((Below.refl _ _).alloc (Nat.le_refl _) _).alloc (by simp) _).alloc (by simp; omega) _
  have HB0 : Hid (Below w.heap.size w w0) := hB0
  rw [← hw0] at HBx
  have HW0 : Hid (w0 = ((w.alloc (.cells #[.slice p l1 c, .slice p2 l2 c2] 25)).alloc (.cells #[.string yn, .slice px l3 cx] 34)).alloc (.cells #[.string s1, .string s2, .string s3, .string s4] 27)) := hw0
  clear hw0 hB0
  unfold maxLen at hn1 hn2 hnx
  go_enter Try.func4, Try.ntmps4
  go_wp2_with fail
  rw [← HW0.out]
  refine Calls.mono (HH1.out _ HB0.out) ?_
  rintro e wa ⟨pa, ca, rfl, hr, bb⟩
  have HCa : Hid (Below w0.heap.size w0 wa) := bb
  have HBa : Hid (Below w.heap.size w wa) := HB0.out.trans (bb.mono HB0.out.size)
  have HLa : Hid (Rls wa (.slice pa R.length ca) R) := hr
  clear bb hr
  obtain ⟨⟨z0, z1, z2, z3⟩, z4, z5, z6, z7⟩ := HBx.out wa HCa.out
  go_wp2_with fail
  refine Calls.mono (HH2.out _ HBa.out) ?_
  rintro e wb ⟨pb, cb, rfl, hr, bb⟩
  have HCb : Hid (Below w0.heap.size w0 wb) := HCa.out.trans (bb.mono HCa.out.size)
  have HBb : Hid (Below w.heap.size w wb) := HBa.out.trans (bb.mono HBa.out.size)
  have HLb : Hid (Rls wb (.slice pa R.length ca) R) := HR1.out _ _ _ _ HLa.out bb
  have HMb : Hid (Rls wb (.slice pb R.length cb) R) := hr
  clear bb hr z0 z1 z2 z3 z4 z5 z6 z7
  obtain ⟨⟨z0, z1, z2, z3⟩, z4, z5, z6, z7⟩ := HBx.out wb HCb.out
  go_wp2_with fail
  refine Calls.mono (HM1.out _ HBb.out) ?_
  rintro e wc ⟨rfl, bb⟩
  have HCc : Hid (Below w0.heap.size w0 wc) := HCb.out.trans (bb.mono HCb.out.size)
  have HBc : Hid (Below w.heap.size w wc) := HBb.out.trans (bb.mono HBb.out.size)
  have HLc : Hid (Rls wc (.slice pa R.length ca) R) := HR1.out _ _ _ _ HLb.out bb
  have HMc : Hid (Rls wc (.slice pb R.length cb) R) := HR1.out _ _ _ _ HMb.out bb
  clear bb z0 z1 z2 z3 z4 z5 z6 z7
  obtain ⟨⟨z0, z1, z2, z3⟩, z4, z5, z6, z7⟩ := HBx.out wc HCc.out
  go_wp2_with fail
  refine Calls.mono (HM2.out _ HBc.out) ?_
  rintro e wd ⟨rfl, bb⟩
  have HCd : Hid (Below w0.heap.size w0 wd) := HCc.out.trans (bb.mono HCc.out.size)
  have HBd : Hid (Below w.heap.size w wd) := HBc.out.trans (bb.mono HBc.out.size)
  have HLd : Hid (Rls wd (.slice pa R.length ca) R) := HR1.out _ _ _ _ HLc.out bb
  have HMd : Hid (Rls wd (.slice pb R.length cb) R) := HR1.out _ _ _ _ HMc.out bb
  clear bb z0 z1 z2 z3 z4 z5 z6 z7
  go_wp2_with fail
  refine M_begin 27 28 (fun w' => Below wd.heap.size wd w') (by kernel_rfl) rfl ?_
  have hHeld : (fun w' => Below wd.heap.size wd w') wd.drew := (Below.refl _ _).drew
  refine M_take 0 (oi := { dst := some 45, op := Op.move (Operand.tmp 9), type := 35, pos := "low.go:205", after := #[], guard := none }) (v := ?vt1) rfl (by kernel_rfl) (by kernel_rfl) (by kernel_rfl) (by kernel_rfl) (by kernel_rfl) (by decide) (by decide) (by kernel_rfl) (fun _ _ _ h => h) hHeld ?hy1 ?_
  case hy1 => exact (Or.inl ⟨by rfl, by (intro w' hSw; go_simp; try (with_reducible rfl))⟩)
  try simp only [Act.put, List.setIfInBounds_toArray, List.set_cons_zero, List.set_cons_succ]
  refine M_take 1 (oi := { dst := some 46, op := Op.move (Operand.tmp 11), type := 35, pos := "low.go:205", after := #[], guard := none }) (v := ?vt2) rfl (by kernel_rfl) (by kernel_rfl) (by kernel_rfl) (by kernel_rfl) (by kernel_rfl) (by decide) (by decide) (by kernel_rfl) (fun _ _ _ h => h) hHeld ?hy2 ?_
  case hy2 => exact (Or.inl ⟨by rfl, by (intro w' hSw; go_simp; try (with_reducible rfl))⟩)
  try simp only [Act.put, List.setIfInBounds_toArray, List.set_cons_zero, List.set_cons_succ]
  refine M_ready [2] (by kernel_rfl) (by decide) ?_
  refine AllM.cons (i := 2) (o := { dst := some 47, op := Op.call { callee := Callee.value (Operand.func 15), args := #[Operand.tmp 45, Operand.tmp 46, Operand.func 16], argTypes := #[35, 35, 43] }, type := 4, pos := "low.go:205", after := #[{ on := 0, ground := Ground.data }, { on := 1, ground := Ground.data }], guard := none }) rfl (fun K hK => ?_) AllM.nil
  rw [if_pos (by rfl)]
  go_wp2_with fail
  refine Calls.mono (HSA.out _ _ _ _ _ (HR1.out _ _ _ _ HLd.out hHeld) (HR1.out _ _ _ _ HMd.out hHeld)) ?_
  rintro e we ⟨rfl, bb⟩
  dsimp only
  refine hK.out _ _ (hHeld.trans (bb.mono hHeld.size)) (fun hHeld2 => ?_)
  clear hK K hHeld bb
  have hHeld := hHeld2
  clear hHeld2
  try simp only [Act.put, List.setIfInBounds_toArray, List.set_cons_zero, List.set_cons_succ]
  refine M_take 3 (oi := { dst := some 48, op := Op.move (Operand.tmp 47), type := 4, pos := "low.go:205", after := #[{ on := 2, ground := Ground.data }, { on := 2, ground := Ground.chain }], guard := none }) (v := .bool true) rfl (by kernel_rfl) (by kernel_rfl) (by kernel_rfl) (by kernel_rfl) (by kernel_rfl) (by decide) (by decide) (by kernel_rfl) (fun _ _ _ h => h) hHeld ?hy3 ?_
  case hy3 => exact (Or.inl ⟨by rfl, by (intro w' hSw; go_simp; try (with_reducible rfl))⟩)
  try simp only [Act.put, List.setIfInBounds_toArray, List.set_cons_zero, List.set_cons_succ]
  refine M_take 4 (oi := { dst := some 49, op := Op.move (Operand.tmp 10), type := 28, pos := "low.go:205", after := #[{ on := 3, ground := Ground.guard }], guard := some (3, true) }) (v := ?vt4) rfl (by kernel_rfl) (by kernel_rfl) (by kernel_rfl) (by kernel_rfl) (by kernel_rfl) (by decide) (by decide) (by kernel_rfl) (fun _ _ _ h => h) hHeld ?hy4 ?_
  case hy4 => exact (Or.inl ⟨by rfl, by (intro w' hSw; go_simp; try (with_reducible rfl))⟩)
  try simp only [Act.put, List.setIfInBounds_toArray, List.set_cons_zero, List.set_cons_succ]
  refine M_take 5 (oi := { dst := some 50, op := Op.move (Operand.tmp 12), type := 28, pos := "low.go:205", after := #[{ on := 3, ground := Ground.guard }], guard := some (3, true) }) (v := ?vt5) rfl (by kernel_rfl) (by kernel_rfl) (by kernel_rfl) (by kernel_rfl) (by kernel_rfl) (by decide) (by decide) (by kernel_rfl) (fun _ _ _ h => h) hHeld ?hy5 ?_
  case hy5 => exact (Or.inl ⟨by rfl, by (intro w' hSw; go_simp; try (with_reducible rfl))⟩)
  try simp only [Act.put, List.setIfInBounds_toArray, List.set_cons_zero, List.set_cons_succ]
  refine M_take 6 (oi := { dst := some 51, op := Op.binOp BinOp.eql 28 (Operand.tmp 49) (Operand.tmp 50) 28, type := 4, pos := "low.go:205", after := #[{ on := 4, ground := Ground.data }, { on := 5, ground := Ground.data }, { on := 3, ground := Ground.guard }], guard := some (3, true) }) (v := .bool true) rfl (by kernel_rfl) (by kernel_rfl) (by kernel_rfl) (by kernel_rfl) (by kernel_rfl) (by decide) (by decide) (by kernel_rfl) (fun _ _ _ h => h) hHeld ?hy6 ?_
  case hy6 => exact (Or.inl ⟨by rfl, by (intro w' hSw; go_simp; try (with_reducible rfl))⟩)
  try simp only [Act.put, List.setIfInBounds_toArray, List.set_cons_zero, List.set_cons_succ]
  refine M_take 7 (oi := { dst := some 52, op := Op.pick (Operand.tmp 48) (Operand.tmp 51) (Operand.const (Value.bool false)), type := 4, pos := "low.go:205", after := #[{ on := 3, ground := Ground.data }, { on := 6, ground := Ground.data }], guard := none }) (v := .bool true) rfl (by kernel_rfl) (by kernel_rfl) (by kernel_rfl) (by kernel_rfl) (by kernel_rfl) (by decide) (by decide) (by kernel_rfl) (fun _ _ _ h => h) hHeld ?hy7 ?_
  case hy7 => exact (Or.inl ⟨by rfl, by (intro w' hSw; go_simp; try (with_reducible rfl))⟩)
  try simp only [Act.put, List.setIfInBounds_toArray, List.set_cons_zero, List.set_cons_succ]
  refine M_take 8 (oi := { dst := some 53, op := Op.move (Operand.tmp 52), type := 4, pos := "low.go:205", after := #[{ on := 7, ground := Ground.data }, { on := 3, ground := Ground.chain }], guard := none }) (v := .bool true) rfl (by kernel_rfl) (by kernel_rfl) (by kernel_rfl) (by kernel_rfl) (by kernel_rfl) (by decide) (by decide) (by kernel_rfl) (fun _ _ _ h => h) hHeld ?hy8 ?_
  case hy8 => exact (Or.inl ⟨by rfl, by (intro w' hSw; go_simp; try (with_reducible rfl))⟩)
  try simp only [Act.put, List.setIfInBounds_toArray, List.set_cons_zero, List.set_cons_succ]
  refine M_take 9 (oi := { dst := some 54, op := Op.move (Operand.tmp 13), type := 4, pos := "low.go:205", after := #[{ on := 8, ground := Ground.guard }], guard := some (8, true) }) (v := ?vt9) rfl (by kernel_rfl) (by kernel_rfl) (by kernel_rfl) (by kernel_rfl) (by kernel_rfl) (by decide) (by decide) (by kernel_rfl) (fun _ _ _ h => h) hHeld ?hy9 ?_
  case hy9 => exact (Or.inl ⟨by rfl, by (intro w' hSw; go_simp; try (with_reducible rfl))⟩)
  try simp only [Act.put, List.setIfInBounds_toArray, List.set_cons_zero, List.set_cons_succ]
  refine M_take 10 (oi := { dst := some 55, op := Op.move (Operand.tmp 15), type := 4, pos := "low.go:205", after := #[{ on := 8, ground := Ground.guard }], guard := some (8, true) }) (v := ?vt10) rfl (by kernel_rfl) (by kernel_rfl) (by kernel_rfl) (by kernel_rfl) (by kernel_rfl) (by decide) (by decide) (by kernel_rfl) (fun _ _ _ h => h) hHeld ?hy10 ?_
  case hy10 => exact (Or.inl ⟨by rfl, by (intro w' hSw; go_simp; try (with_reducible rfl))⟩)
  try simp only [Act.put, List.setIfInBounds_toArray, List.set_cons_zero, List.set_cons_succ]
  refine M_take 11 (oi := { dst := some 56, op := Op.binOp BinOp.eql 4 (Operand.tmp 54) (Operand.tmp 55) 4, type := 4, pos := "low.go:205", after := #[{ on := 9, ground := Ground.data }, { on := 10, ground := Ground.data }, { on := 8, ground := Ground.guard }], guard := some (8, true) }) (v := .bool true) rfl (by kernel_rfl) (by kernel_rfl) (by kernel_rfl) (by kernel_rfl) (by kernel_rfl) (by decide) (by decide) (by kernel_rfl) (fun _ _ _ h => h) hHeld ?hy11 ?_
  case hy11 => exact (Or.inl ⟨by rfl, by (intro w' hSw; go_simp; try (with_reducible rfl))⟩)
  try simp only [Act.put, List.setIfInBounds_toArray, List.set_cons_zero, List.set_cons_succ]
  refine M_take 12 (oi := { dst := some 57, op := Op.pick (Operand.tmp 53) (Operand.tmp 56) (Operand.const (Value.bool false)), type := 4, pos := "low.go:205", after := #[{ on := 8, ground := Ground.data }, { on := 11, ground := Ground.data }], guard := none }) (v := .bool true) rfl (by kernel_rfl) (by kernel_rfl) (by kernel_rfl) (by kernel_rfl) (by kernel_rfl) (by decide) (by decide) (by kernel_rfl) (fun _ _ _ h => h) hHeld ?hy12 ?_
  case hy12 => exact (Or.inl ⟨by rfl, by (intro w' hSw; go_simp; try (with_reducible rfl))⟩)
  try simp only [Act.put, List.setIfInBounds_toArray, List.set_cons_zero, List.set_cons_succ]
  refine M_take 13 (oi := { dst := some 58, op := Op.move (Operand.tmp 57), type := 4, pos := "low.go:205", after := #[{ on := 12, ground := Ground.data }, { on := 8, ground := Ground.chain }], guard := none }) (v := .bool true) rfl (by kernel_rfl) (by kernel_rfl) (by kernel_rfl) (by kernel_rfl) (by kernel_rfl) (by decide) (by decide) (by kernel_rfl) (fun _ _ _ h => h) hHeld ?hy13 ?_
  case hy13 => exact (Or.inl ⟨by rfl, by (intro w' hSw; go_simp; try (with_reducible rfl))⟩)
  try simp only [Act.put, List.setIfInBounds_toArray, List.set_cons_zero, List.set_cons_succ]
  refine M_take 14 (oi := { dst := some 59, op := Op.move (Operand.tmp 14), type := 28, pos := "low.go:205", after := #[{ on := 13, ground := Ground.guard }], guard := some (13, true) }) (v := ?vt14) rfl (by kernel_rfl) (by kernel_rfl) (by kernel_rfl) (by kernel_rfl) (by kernel_rfl) (by decide) (by decide) (by kernel_rfl) (fun _ _ _ h => h) hHeld ?hy14 ?_
  case hy14 => exact (Or.inl ⟨by rfl, by (intro w' hSw; go_simp; try (with_reducible rfl))⟩)
  try simp only [Act.put, List.setIfInBounds_toArray, List.set_cons_zero, List.set_cons_succ]
  refine M_take 15 (oi := { dst := some 60, op := Op.move (Operand.tmp 16), type := 28, pos := "low.go:205", after := #[{ on := 13, ground := Ground.guard }], guard := some (13, true) }) (v := ?vt15) rfl (by kernel_rfl) (by kernel_rfl) (by kernel_rfl) (by kernel_rfl) (by kernel_rfl) (by decide) (by decide) (by kernel_rfl) (fun _ _ _ h => h) hHeld ?hy15 ?_
  case hy15 => exact (Or.inl ⟨by rfl, by (intro w' hSw; go_simp; try (with_reducible rfl))⟩)
  try simp only [Act.put, List.setIfInBounds_toArray, List.set_cons_zero, List.set_cons_succ]
  refine M_take 16 (oi := { dst := some 61, op := Op.binOp BinOp.eql 28 (Operand.tmp 59) (Operand.tmp 60) 28, type := 4, pos := "low.go:205", after := #[{ on := 14, ground := Ground.data }, { on := 15, ground := Ground.data }, { on := 13, ground := Ground.guard }], guard := some (13, true) }) (v := .bool true) rfl (by kernel_rfl) (by kernel_rfl) (by kernel_rfl) (by kernel_rfl) (by kernel_rfl) (by decide) (by decide) (by kernel_rfl) (fun _ _ _ h => h) hHeld ?hy16 ?_
  case hy16 => exact (Or.inl ⟨by rfl, by (intro w' hSw; go_simp; try (with_reducible rfl))⟩)
  try simp only [Act.put, List.setIfInBounds_toArray, List.set_cons_zero, List.set_cons_succ]
  refine M_take 17 (oi := { dst := some 62, op := Op.pick (Operand.tmp 58) (Operand.tmp 61) (Operand.const (Value.bool false)), type := 4, pos := "low.go:205", after := #[{ on := 13, ground := Ground.data }, { on := 16, ground := Ground.data }], guard := none }) (v := .bool true) rfl (by kernel_rfl) (by kernel_rfl) (by kernel_rfl) (by kernel_rfl) (by kernel_rfl) (by decide) (by decide) (by kernel_rfl) (fun _ _ _ h => h) hHeld ?hy17 ?_
  case hy17 => exact (Or.inl ⟨by rfl, by (intro w' hSw; go_simp; try (with_reducible rfl))⟩)
  try simp only [Act.put, List.setIfInBounds_toArray, List.set_cons_zero, List.set_cons_succ]
  refine M_take 18 (oi := { dst := some 63, op := Op.move (Operand.tmp 62), type := 4, pos := "low.go:205", after := #[{ on := 17, ground := Ground.data }, { on := 13, ground := Ground.chain }], guard := none }) (v := .bool true) rfl (by kernel_rfl) (by kernel_rfl) (by kernel_rfl) (by kernel_rfl) (by kernel_rfl) (by decide) (by decide) (by kernel_rfl) (fun _ _ _ h => h) hHeld ?hy18 ?_
  case hy18 => exact (Or.inl ⟨by rfl, by (intro w' hSw; go_simp; try (with_reducible rfl))⟩)
  try simp only [Act.put, List.setIfInBounds_toArray, List.set_cons_zero, List.set_cons_succ]
  refine M_take 19 (oi := { dst := some 64, op := Op.move (Operand.tmp 9), type := 35, pos := "low.go:205", after := #[{ on := 18, ground := Ground.guard }], guard := some (18, true) }) (v := ?vt19) rfl (by kernel_rfl) (by kernel_rfl) (by kernel_rfl) (by kernel_rfl) (by kernel_rfl) (by decide) (by decide) (by kernel_rfl) (fun _ _ _ h => h) hHeld ?hy19 ?_
  case hy19 => exact (Or.inl ⟨by rfl, by (intro w' hSw; go_simp; try (with_reducible rfl))⟩)
  try simp only [Act.put, List.setIfInBounds_toArray, List.set_cons_zero, List.set_cons_succ]
  refine M_take 20 (oi := { dst := some 65, op := Op.load 27 (Operand.tmp 7), type := 27, pos := "low.go:205", after := #[{ on := 18, ground := Ground.guard }], guard := some (18, true) }) (v := .agg #[.string s1, .string s2, .string s3, .string s4]) rfl (by kernel_rfl) (by kernel_rfl) (by kernel_rfl) (by kernel_rfl) (by kernel_rfl) (by decide) (by decide) (by kernel_rfl) (fun _ _ _ h => h) hHeld ?hy20 ?_
  case hy20 => exact (Or.inl ⟨by rfl, by (intro w' hSw; obtain ⟨⟨z0, z1, z2, z3⟩, z4, z5, z6, z7⟩ := HBx.out w' (HCd.out.trans (hSw.mono HCd.out.size)); go_simp; try (with_reducible rfl))⟩)
  try simp only [Act.put, List.setIfInBounds_toArray, List.set_cons_zero, List.set_cons_succ]
  refine M_take 22 (oi := { dst := some 67, op := Op.move (Operand.tmp 11), type := 35, pos := "low.go:205", after := #[{ on := 18, ground := Ground.guard }], guard := some (18, true) }) (v := ?vt21) rfl (by kernel_rfl) (by kernel_rfl) (by kernel_rfl) (by kernel_rfl) (by kernel_rfl) (by decide) (by decide) (by kernel_rfl) (fun _ _ _ h => h) hHeld ?hy21 ?_
  case hy21 => exact (Or.inl ⟨by rfl, by (intro w' hSw; go_simp; try (with_reducible rfl))⟩)
  try simp only [Act.put, List.setIfInBounds_toArray, List.set_cons_zero, List.set_cons_succ]
  refine M_take 23 (oi := { dst := some 68, op := Op.load 27 (Operand.tmp 7), type := 27, pos := "low.go:205", after := #[{ on := 18, ground := Ground.guard }], guard := some (18, true) }) (v := .agg #[.string s1, .string s2, .string s3, .string s4]) rfl (by kernel_rfl) (by kernel_rfl) (by kernel_rfl) (by kernel_rfl) (by kernel_rfl) (by decide) (by decide) (by kernel_rfl) (fun _ _ _ h => h) hHeld ?hy22 ?_
  case hy22 => exact (Or.inl ⟨by rfl, by (intro w' hSw; obtain ⟨⟨z0, z1, z2, z3⟩, z4, z5, z6, z7⟩ := HBx.out w' (HCd.out.trans (hSw.mono HCd.out.size)); go_simp; try (with_reducible rfl))⟩)
  try simp only [Act.put, List.setIfInBounds_toArray, List.set_cons_zero, List.set_cons_succ]
  refine M_ready [21] (by kernel_rfl) (by decide) ?_
  refine AllM.cons (i := 21) (o := { dst := some 66, op := Op.call { callee := Callee.value (Operand.func 17), args := #[Operand.tmp 64, Operand.tmp 65], argTypes := #[35, 27] }, type := 4, pos := "low.go:205", after := #[{ on := 19, ground := Ground.data }, { on := 20, ground := Ground.data }, { on := 18, ground := Ground.chain }, { on := 18, ground := Ground.guard }], guard := some (18, true) }) rfl (fun K hK => ?_) AllM.nil
  rw [if_pos (by rfl)]
  go_wp2_with fail
  refine Calls.mono (HA1.out _ _ _ (HR1.out _ _ _ _ HLd.out hHeld)) ?_
  rintro e wf ⟨rfl, bb⟩
  dsimp only
  refine hK.out _ _ (hHeld.trans (bb.mono hHeld.size)) (fun hHeld2 => ?_)
  clear hK K hHeld bb
  have hHeld := hHeld2
  clear hHeld2
  try simp only [Act.put, List.setIfInBounds_toArray, List.set_cons_zero, List.set_cons_succ]
  refine M_ready [24] (by kernel_rfl) (by decide) ?_
  refine AllM.cons (i := 24) (o := { dst := some 69, op := Op.call { callee := Callee.value (Operand.func 18), args := #[Operand.tmp 67, Operand.tmp 68], argTypes := #[35, 27] }, type := 4, pos := "low.go:205", after := #[{ on := 22, ground := Ground.data }, { on := 23, ground := Ground.data }, { on := 21, ground := Ground.chain }, { on := 18, ground := Ground.guard }], guard := some (18, true) }) rfl (fun K hK => ?_) AllM.nil
  rw [if_pos (by rfl)]
  go_wp2_with fail
  refine Calls.mono (HA2.out _ _ _ (HR1.out _ _ _ _ HMd.out hHeld)) ?_
  rintro e wg ⟨rfl, bb⟩
  dsimp only
  refine hK.out _ _ (hHeld.trans (bb.mono hHeld.size)) (fun hHeld2 => ?_)
  clear hK K hHeld bb
  have hHeld := hHeld2
  clear hHeld2
  try simp only [Act.put, List.setIfInBounds_toArray, List.set_cons_zero, List.set_cons_succ]
  refine M_take 25 (oi := { dst := some 70, op := Op.binOp BinOp.eql 4 (Operand.tmp 66) (Operand.tmp 69) 4, type := 4, pos := "low.go:205", after := #[{ on := 21, ground := Ground.data }, { on := 24, ground := Ground.data }, { on := 18, ground := Ground.guard }], guard := some (18, true) }) (v := .bool true) rfl (by kernel_rfl) (by kernel_rfl) (by kernel_rfl) (by kernel_rfl) (by kernel_rfl) (by decide) (by decide) (by kernel_rfl) (fun _ _ _ h => h) hHeld ?hy23 ?_
  case hy23 => exact (Or.inl ⟨by rfl, by (intro w' hSw; go_simp; try (with_reducible rfl))⟩)
  try simp only [Act.put, List.setIfInBounds_toArray, List.set_cons_zero, List.set_cons_succ]
  refine M_take 26 (oi := { dst := some 71, op := Op.pick (Operand.tmp 63) (Operand.tmp 70) (Operand.const (Value.bool false)), type := 4, pos := "low.go:205", after := #[{ on := 18, ground := Ground.data }, { on := 25, ground := Ground.data }], guard := none }) (v := .bool true) rfl (by kernel_rfl) (by kernel_rfl) (by kernel_rfl) (by kernel_rfl) (by kernel_rfl) (by decide) (by decide) (by kernel_rfl) (fun _ _ _ h => h) hHeld ?hy24 ?_
  case hy24 => exact (Or.inl ⟨by rfl, by (intro w' hSw; go_simp; try (with_reducible rfl))⟩)
  try simp only [Act.put, List.setIfInBounds_toArray, List.set_cons_zero, List.set_cons_succ]
  refine M_tail [{ dst := some 8, op := Op.assign (Operand.tmp 71), type := 4, pos := "low.go:205", after := #[{ on := 26, ground := Ground.data }, { on := 24, ground := Ground.chain }, { on := 0, ground := Ground.phase }, { on := 1, ground := Ground.phase }, { on := 2, ground := Ground.phase }, { on := 3, ground := Ground.phase }, { on := 4, ground := Ground.phase }, { on := 5, ground := Ground.phase }, { on := 6, ground := Ground.phase }, { on := 7, ground := Ground.phase }, { on := 8, ground := Ground.phase }, { on := 9, ground := Ground.phase }, { on := 10, ground := Ground.phase }, { on := 11, ground := Ground.phase }, { on := 12, ground := Ground.phase }, { on := 13, ground := Ground.phase }, { on := 14, ground := Ground.phase }, { on := 15, ground := Ground.phase }, { on := 16, ground := Ground.phase }, { on := 17, ground := Ground.phase }, { on := 18, ground := Ground.phase }, { on := 19, ground := Ground.phase }, { on := 20, ground := Ground.phase }, { on := 21, ground := Ground.phase }, { on := 22, ground := Ground.phase }, { on := 23, ground := Ground.phase }, { on := 24, ground := Ground.phase }, { on := 25, ground := Ground.phase }, { on := 26, ground := Ground.phase }], guard := none }] rfl (by kernel_rfl) (by kernel_rfl) ?_
  have HBz : Hid (Below w.heap.size w wg) := HBd.out.trans (hHeld.mono HBd.out.size)
  clear hHeld
  go_wp2_with fail
  go_ret
  exact ⟨rfl, HBz.out⟩
end Go.Proofs.Ytnjjlnhchfoigaa
