/- Contract over this translation: grants.May. -/
import Derived.Test.YtnjjlnhchfoigaaGrTop
import Derived.Test.YtnjjlnhchfoigaaRfOrd
namespace Go.Proofs.Ytnjjlnhchfoigaa
open Go.RowKit
set_option linter.unusedVariables false
set_option linter.unusedSimpArgs false
/-- three boxes: of two, two and four cells -/
theorem bxs3 {w w1 : World} {a b c d e f g h : Value} {t s r : TypeId} (hh : Below (((w.alloc (.cells #[a, b] t)).alloc (.cells #[c, d] s)).alloc (.cells #[e, f, g, h] r)).heap.size (((w.alloc (.cells #[a, b] t)).alloc (.cells #[c, d] s)).alloc (.cells #[e, f, g, h] r)) w1) :
    (w1.cell? ⟨w.heap.size, 0, none⟩ = some a ∧ w1.cell? ⟨w.heap.size, 1, none⟩ = some b ∧ w1.cell? ⟨w.heap.size + 1, 0, none⟩ = some c ∧ w1.cell? ⟨w.heap.size + 1, 1, none⟩ = some d) ∧
    w1.cell? ⟨w.heap.size + 2, 0, none⟩ = some e ∧ w1.cell? ⟨w.heap.size + 2, 1, none⟩ = some f ∧ w1.cell? ⟨w.heap.size + 2, 2, none⟩ = some g ∧ w1.cell? ⟨w.heap.size + 2, 3, none⟩ = some h := by
  have h0 : Below ((w.alloc (.cells #[a, b] t)).alloc (.cells #[c, d] s)).heap.size ((w.alloc (.cells #[a, b] t)).alloc (.cells #[c, d] s)) w1 := ((Below.refl _ _).alloc (Nat.le_refl _) _).trans (hh.mono (by simp))
  refine ⟨bxs2 h0, ?_⟩
  have k := bx4 hh
  have hs : ((w.alloc (.cells #[a, b] t)).alloc (.cells #[c, d] s)).heap.size = w.heap.size + 2 := by simp
  rw [hs] at k
  exact k
theorem may_1 {rs : List Ro} {bs : List Bi} {n : Bs} {gs : List Bs} {a : Ak} (h : holdI rs bs n gs ≠ 0) : whyMayI rs bs n gs a = holdI rs bs n gs ∧ mayB rs bs n gs a = false := by
  have e : whyMayI rs bs n gs a = holdI rs bs n gs := orE_l h
  refine ⟨e, ?_⟩
  unfold mayB
  rw [e, decide_eq_false h]; rfl
theorem may_2 {rs : List Ro} {bs : List Bi} {n : Bs} {gs : List Bs} {a : Ak} (h : holdI rs bs n gs = 0) (g : askI a ≠ 0) : whyMayI rs bs n gs a = askI a ∧ mayB rs bs n gs a = false := by
  have e : whyMayI rs bs n gs a = askI a := orE_r h
  refine ⟨e, ?_⟩
  unfold mayB
  rw [e, decide_eq_false g]; rfl
theorem may_3 {rs : List Ro} {bs : List Bi} {n : Bs} {gs : List Bs} {a : Ak} (h : holdI rs bs n gs = 0) (g : askI a = 0) : whyMayI rs bs n gs a = 0 ∧ mayB rs bs n gs a = allB (heldP rs bs n gs a.2.2.1) a := by
  have e : whyMayI rs bs n gs a = 0 := by rw [show whyMayI rs bs n gs a = askI a from orE_r h, g]
  refine ⟨e, ?_⟩
  unfold mayB
  rw [e]; rfl
set_option maxRecDepth 100000 in
set_option maxHeartbeats 8000000 in
theorem may_any (u v x : Value) (rs : List Ro) (bs : List Bi) (n : Bs) (gs : List Bs) (a : Ak) (w : World) (hg : Grs w u v rs bs) (hx : Strs w x gs) (hn : n.length ≤ maxLen) (hfg : FitS gs) (hfa : FitA a) :
    Calls Try.prog 13 #[.agg #[u, v], .agg #[.string (Ba n), x], askV a] w fun e w' => e = .returned (.tuple #[.bool (mayB rs bs n gs a), .int .i64 (whyMayI rs bs n gs a)]) ∧ Below w.heap.size w w' := by
  obtain ⟨p, c, rfl, hn1⟩ := Sq.form hg.ros
  obtain ⟨p2, c2, rfl, hn2⟩ := Sq.form hg.bis
  obtain ⟨px, cx, rfl, hnx⟩ := hx.form
  have HG : Hid (∀ w1, Below w.heap.size w w1 → Calls Try.prog 38 #[.agg #[.slice p rs.length c, .slice p2 bs.length c2], .agg #[.string (Ba n), .slice px gs.length cx]] w1 fun e w' => e = .returned (.int .i64 (holdI rs bs n gs)) ∧ Below w1.heap.size w1 w') := fun w1 hb => holder_any _ _ _ rs bs n gs w1 (hg.below hb) (hx.below hb) hn hfg
  have HAk : Hid (∀ w1, Calls Try.prog 9 #[askV a] w1 fun e w' => e = .returned (.int .i64 (askI a)) ∧ Below w1.heap.size w1 w') := fun w1 => ask_any a w1 hfa
  have HH : Hid (grI rs bs = 0 → ∀ w1, Below w.heap.size w w1 → Calls Try.prog 35 #[.agg #[.slice p rs.length c, .slice p2 bs.length c2], .agg #[.string (Ba n), .slice px gs.length cx], .string (Ba a.2.2.1)] w1 fun e w' => ∃ y, e = .returned y ∧ Rls w' y (heldP rs bs n gs a.2.2.1) ∧ Below w1.heap.size w1 w') := fun h0 w1 hb => by
    obtain ⟨h12, _, h8⟩ := gr_ok h0
    refine (held_any _ _ _ rs bs n gs a.2.2.1 w1 (hg.below hb) (hx.below hb) h12 h8).mono ?_
    rintro e w2 ⟨y, L, rfl, hm, ho, hs, _, hb2⟩
    exact ⟨y, rfl, by rw [← hm]; exact rls_of_owns ho (hs.below hb2), hb2⟩
  have HAl : Hid (∀ y w1, Rls w1 y (heldP rs bs n gs a.2.2.1) → Calls Try.prog 17 #[y, askV a] w1 fun e w' => e = .returned (.bool (allB (heldP rs bs n gs a.2.2.1) a)) ∧ Below w1.heap.size w1 w') := fun y w1 h => allows_any y _ a w1 h
  have HE1 : Hid (holdI rs bs n gs ≠ 0 → whyMayI rs bs n gs a = holdI rs bs n gs ∧ mayB rs bs n gs a = false) := may_1
  have HE2 : Hid (holdI rs bs n gs = 0 → askI a ≠ 0 → whyMayI rs bs n gs a = askI a ∧ mayB rs bs n gs a = false) := may_2
  have HE3 : Hid (holdI rs bs n gs = 0 → askI a = 0 → whyMayI rs bs n gs a = 0 ∧ mayB rs bs n gs a = allB (heldP rs bs n gs a.2.2.1) a) := may_3
  have HE4 : Hid (holdI rs bs n gs = 0 → grI rs bs = 0) := fun h => (orE_zero.1 h).1
  generalize heldP rs bs n gs a.2.2.1 = H at *
  generalize allB H a = al at *
  generalize mayB rs bs n gs a = mb at *
  generalize whyMayI rs bs n gs a = wm at *
  generalize askI a = e2 at *
  obtain ⟨vb, kd, sp, nm⟩ := a
  dsimp only [askV] at *
  have HBx : Hid (∀ w1, Below (((w.alloc (.cells #[.slice p rs.length c, .slice p2 bs.length c2] 25)).alloc (.cells #[.string (Ba n), .slice px gs.length cx] 34)).alloc (.cells #[.string (Ba vb), .string (Ba kd), .string (Ba sp), .string (Ba nm)] 27)).heap.size (((w.alloc (.cells #[.slice p rs.length c, .slice p2 bs.length c2] 25)).alloc (.cells #[.string (Ba n), .slice px gs.length cx] 34)).alloc (.cells #[.string (Ba vb), .string (Ba kd), .string (Ba sp), .string (Ba nm)] 27)) w1 →
      (w1.cell? ⟨w.heap.size, 0, none⟩ = some (.slice p rs.length c) ∧ w1.cell? ⟨w.heap.size, 1, none⟩ = some (.slice p2 bs.length c2) ∧ w1.cell? ⟨w.heap.size + 1, 0, none⟩ = some (.string (Ba n)) ∧ w1.cell? ⟨w.heap.size + 1, 1, none⟩ = some (.slice px gs.length cx)) ∧
      w1.cell? ⟨w.heap.size + 2, 0, none⟩ = some (.string (Ba vb)) ∧ w1.cell? ⟨w.heap.size + 2, 1, none⟩ = some (.string (Ba kd)) ∧ w1.cell? ⟨w.heap.size + 2, 2, none⟩ = some (.string (Ba sp)) ∧ w1.cell? ⟨w.heap.size + 2, 3, none⟩ = some (.string (Ba nm))) := fun w1 h => bxs3 h
  obtain ⟨w0, hw0⟩ : ∃ w0, w0 = ((w.alloc (.cells #[.slice p rs.length c, .slice p2 bs.length c2] 25)).alloc (.cells #[.string (Ba n), .slice px gs.length cx] 34)).alloc (.cells #[.string (Ba vb), .string (Ba kd), .string (Ba sp), .string (Ba nm)] 27) := ⟨_, rfl⟩
  have hB0 : Below w.heap.size w w0 := by rw [hw0]; exact (((Below.refl _ _).alloc (Nat.le_refl _) _).alloc (by simp) _).alloc (by simp; omega) _
  have HB0 : Hid (Below w.heap.size w w0) := hB0
  rw [← hw0] at HBx
  have HW0 : Hid (w0 = ((w.alloc (.cells #[.slice p rs.length c, .slice p2 bs.length c2] 25)).alloc (.cells #[.string (Ba n), .slice px gs.length cx] 34)).alloc (.cells #[.string (Ba vb), .string (Ba kd), .string (Ba sp), .string (Ba nm)] 27)) := hw0
  clear hg hx hn hfg hfa hw0 hB0
  generalize rs.length = l1 at *
  generalize bs.length = l2 at *
  generalize gs.length = l3 at *
  generalize Ba n = yn at *
  generalize Ba vb = s1 at *
  generalize Ba kd = s2 at *
  generalize Ba sp = s3 at *
  generalize Ba nm = s4 at *
  generalize holdI rs bs n gs = e1 at *
  generalize grI rs bs = e0 at *
  unfold maxLen at hn1 hn2 hnx
  by_cases h1 : e1 = 0
  · have b1 : (e1 != 0) = false := by simp [h1]
    by_cases h2 : e2 = 0
    · have b2 : (e2 != 0) = false := by simp [h2]
      obtain ⟨hx1, hx2⟩ := HE3.out h1 h2
      have HX1 : Hid (wm = 0) := hx1
      have HX2 : Hid (mb = al) := hx2
      have HH2 : Hid (_) := HH.out (HE4.out h1)
      clear HE1 HE2 HE3 HE4 HH h1 h2 hx1 hx2
      go_enter Try.func13, Try.ntmps13
      go_wp2_with fail
      rw [← HW0.out]
      refine Calls.mono (HG.out _ HB0.out) ?_
      rintro e w1 ⟨rfl, bb⟩
      have HB1 : Hid (Below w.heap.size w w1) := HB0.out.trans (bb.mono HB0.out.size)
      have HC1 : Hid (Below w0.heap.size w0 w1) := bb
      obtain ⟨⟨x0, x1, x2, x3⟩, x4, x5, x6, x7⟩ := HBx.out w1 bb
      clear bb
      go_wp2_with fail
      refine Calls.mono (HAk.out _) ?_
      rintro e w2 ⟨rfl, bb⟩
      have HB2 : Hid (Below w.heap.size w w2) := HB1.out.trans (bb.mono HB1.out.size)
      have HC2 : Hid (Below w0.heap.size w0 w2) := HC1.out.trans (bb.mono HC1.out.size)
      clear bb x0 x1 x2 x3 x4 x5 x6 x7
      obtain ⟨⟨x0, x1, x2, x3⟩, x4, x5, x6, x7⟩ := HBx.out w2 HC2.out
      go_wp2_with fail
      refine M_begin 7 9 (fun w' => Below w2.heap.size w2 w') (by kernel_rfl) rfl ?_
      have hHeld : (fun w' => Below w2.heap.size w2 w') w2.drew := (Below.refl _ _).drew
      refine M_take 0 (oi := { dst := some 21, op := Op.load 25 (Operand.tmp 3), type := 25, pos := "grants.go:66", after := #[], guard := none }) (v := .agg #[.slice p l1 c, .slice p2 l2 c2]) rfl (by kernel_rfl) (by kernel_rfl) (by kernel_rfl) (by kernel_rfl) (by kernel_rfl) (by decide) (by decide) (by kernel_rfl) (fun _ _ _ h => h) hHeld ?hy1 ?_
      case hy1 => exact (Or.inl ⟨by rfl, by (intro w' hSw; obtain ⟨⟨z0, z1, z2, z3⟩, z4, z5, z6, z7⟩ := HBx.out w' (HC2.out.trans (hSw.mono HC2.out.size)); go_simp; try (with_reducible rfl))⟩)
      try simp only [Act.put, List.setIfInBounds_toArray, List.set_cons_zero, List.set_cons_succ]
      refine M_take 1 (oi := { dst := some 22, op := Op.load 34 (Operand.tmp 4), type := 34, pos := "grants.go:66", after := #[], guard := none }) (v := .agg #[.string yn, .slice px l3 cx]) rfl (by kernel_rfl) (by kernel_rfl) (by kernel_rfl) (by kernel_rfl) (by kernel_rfl) (by decide) (by decide) (by kernel_rfl) (fun _ _ _ h => h) hHeld ?hy2 ?_
      case hy2 => exact (Or.inl ⟨by rfl, by (intro w' hSw; obtain ⟨⟨z0, z1, z2, z3⟩, z4, z5, z6, z7⟩ := HBx.out w' (HC2.out.trans (hSw.mono HC2.out.size)); go_simp; try (with_reducible rfl))⟩)
      try simp only [Act.put, List.setIfInBounds_toArray, List.set_cons_zero, List.set_cons_succ]
      refine M_take 2 (oi := { dst := some 23, op := Op.fieldAddr 27 (Operand.tmp 5) 2, type := 0, pos := "grants.go:66", after := #[], guard := none }) (v := ?vt3) rfl (by kernel_rfl) (by kernel_rfl) (by kernel_rfl) (by kernel_rfl) (by kernel_rfl) (by decide) (by decide) (by kernel_rfl) (fun _ _ _ h => h) hHeld ?hy3 ?_
      case hy3 => exact (Or.inl ⟨by rfl, by (intro w' hSw; go_simp; try (with_reducible rfl))⟩)
      try simp only [Act.put, List.setIfInBounds_toArray, List.set_cons_zero, List.set_cons_succ]
      refine M_take 3 (oi := { dst := some 24, op := Op.load 9 (Operand.tmp 23), type := 9, pos := "grants.go:66", after := #[{ on := 2, ground := Ground.data }], guard := none }) (v := .string s3) rfl (by kernel_rfl) (by kernel_rfl) (by kernel_rfl) (by kernel_rfl) (by kernel_rfl) (by decide) (by decide) (by kernel_rfl) (fun _ _ _ h => h) hHeld ?hy4 ?_
      case hy4 => exact (Or.inl ⟨by rfl, by (intro w' hSw; obtain ⟨⟨z0, z1, z2, z3⟩, z4, z5, z6, z7⟩ := HBx.out w' (HC2.out.trans (hSw.mono HC2.out.size)); go_simp; try (with_reducible rfl))⟩)
      try simp only [Act.put, List.setIfInBounds_toArray, List.set_cons_zero, List.set_cons_succ]
      refine M_take 5 (oi := { dst := some 26, op := Op.load 27 (Operand.tmp 5), type := 27, pos := "grants.go:66", after := #[], guard := none }) (v := .agg #[.string s1, .string s2, .string s3, .string s4]) rfl (by kernel_rfl) (by kernel_rfl) (by kernel_rfl) (by kernel_rfl) (by kernel_rfl) (by decide) (by decide) (by kernel_rfl) (fun _ _ _ h => h) hHeld ?hy5 ?_
      case hy5 => exact (Or.inl ⟨by rfl, by (intro w' hSw; obtain ⟨⟨z0, z1, z2, z3⟩, z4, z5, z6, z7⟩ := HBx.out w' (HC2.out.trans (hSw.mono HC2.out.size)); go_simp; try (with_reducible rfl))⟩)
      try simp only [Act.put, List.setIfInBounds_toArray, List.set_cons_zero, List.set_cons_succ]
      refine M_ready [4] (by kernel_rfl) (by decide) ?_
      refine AllM.cons (i := 4) (o := { dst := some 25, op := Op.call { callee := Callee.value (Operand.func 35), args := #[Operand.tmp 21, Operand.tmp 22, Operand.tmp 24], argTypes := #[25, 34, 9] }, type := 35, pos := "grants.go:66", after := #[{ on := 0, ground := Ground.data }, { on := 1, ground := Ground.data }, { on := 3, ground := Ground.data }], guard := none }) rfl (fun K hK => ?_) AllM.nil
      rw [if_pos (by rfl)]
      go_wp2_with fail
      refine Calls.mono (HH2.out _ (HB2.out.trans (hHeld.mono HB2.out.size))) ?_
      rintro e w3 ⟨y, rfl, hrl, bb3⟩
      dsimp only
      refine hK.out _ _ (hHeld.trans (bb3.mono hHeld.size)) (fun hHeld2 => ?_)
      clear hK K hHeld
      have hHeld := hHeld2
      clear hHeld2
      try simp only [Act.put, List.setIfInBounds_toArray, List.set_cons_zero, List.set_cons_succ]
      refine M_ready [6] (by kernel_rfl) (by decide) ?_
      refine AllM.cons (i := 6) (o := { dst := some 27, op := Op.call { callee := Callee.value (Operand.func 17), args := #[Operand.tmp 25, Operand.tmp 26], argTypes := #[35, 27] }, type := 4, pos := "grants.go:66", after := #[{ on := 4, ground := Ground.data }, { on := 5, ground := Ground.data }, { on := 4, ground := Ground.chain }], guard := none }) rfl (fun K hK => ?_) AllM.nil
      rw [if_pos (by rfl)]
      go_wp2_with fail
      refine Calls.mono (HAl.out y w3 hrl) ?_
      rintro e w4 ⟨rfl, bb4⟩
      dsimp only
      refine hK.out _ _ (hHeld.trans (bb4.mono hHeld.size)) (fun hHeld2 => ?_)
      clear hK K hHeld
      have hHeld := hHeld2
      clear hHeld2
      try simp only [Act.put, List.setIfInBounds_toArray, List.set_cons_zero, List.set_cons_succ]
      refine M_tail [{ dst := some 6, op := Op.assign (Operand.tmp 27), type := 4, pos := "grants.go:66", after := #[{ on := 6, ground := Ground.data }, { on := 6, ground := Ground.chain }, { on := 0, ground := Ground.phase }, { on := 1, ground := Ground.phase }, { on := 2, ground := Ground.phase }, { on := 3, ground := Ground.phase }, { on := 4, ground := Ground.phase }, { on := 5, ground := Ground.phase }, { on := 6, ground := Ground.phase }], guard := none }, { dst := some 7, op := Op.assign (Operand.const (Value.int IntKind.i64 0)), type := 28, pos := "grants.go:66", after := #[{ on := 7, ground := Ground.chain }, { on := 0, ground := Ground.phase }, { on := 1, ground := Ground.phase }, { on := 2, ground := Ground.phase }, { on := 3, ground := Ground.phase }, { on := 4, ground := Ground.phase }, { on := 5, ground := Ground.phase }, { on := 6, ground := Ground.phase }, { on := 7, ground := Ground.phase }], guard := none }] rfl (by kernel_rfl) (by kernel_rfl) ?_
      have HB4 : Hid (Below w.heap.size w w4) := HB2.out.trans (hHeld.mono HB2.out.size)
      clear hHeld hrl bb3 bb4
      go_wp2_with fail
      exact bodyPost_ret (v := .tuple #[.bool al, .int .i64 0]) (by simp [results, Try.results13, go_sem]) rfl ⟨by rw [HX1.out, HX2.out], HB4.out⟩
    · have b2 : (e2 != 0) = true := by simpa using h2
      obtain ⟨hx1, hx2⟩ := HE2.out h1 h2
      have HX1 : Hid (wm = e2) := hx1
      have HX2 : Hid (mb = false) := hx2
      clear HE1 HE2 HE3 HE4 HH h1 h2 hx1 hx2
      go_enter Try.func13, Try.ntmps13
      go_wp2_with fail
      rw [← HW0.out]
      refine Calls.mono (HG.out _ HB0.out) ?_
      rintro e w1 ⟨rfl, bb⟩
      have HB1 : Hid (Below w.heap.size w w1) := HB0.out.trans (bb.mono HB0.out.size)
      obtain ⟨⟨x0, x1, x2, x3⟩, x4, x5, x6, x7⟩ := HBx.out w1 bb
      clear bb
      go_wp2_with fail
      refine Calls.mono (HAk.out _) ?_
      rintro e w2 ⟨rfl, bb⟩
      have HB2 : Hid (Below w.heap.size w w2) := HB1.out.trans (bb.mono HB1.out.size)
      clear bb x0 x1 x2 x3 x4 x5 x6 x7
      go_wp2_with fail
      exact bodyPost_ret (v := .tuple #[.bool false, .int .i64 e2]) (by simp [results, Try.results13, go_sem]) rfl ⟨by rw [HX1.out, HX2.out], HB2.out⟩
  · have b1 : (e1 != 0) = true := by simpa using h1
    obtain ⟨hx1, hx2⟩ := HE1.out h1
    have HX1 : Hid (wm = e1) := hx1
    have HX2 : Hid (mb = false) := hx2
    clear HE1 HE2 HE3 HE4 HH h1 hx1 hx2
    go_enter Try.func13, Try.ntmps13
    go_wp2_with fail
    rw [← HW0.out]
    refine Calls.mono (HG.out _ HB0.out) ?_
    rintro e w1 ⟨rfl, bb⟩
    have HB1 : Hid (Below w.heap.size w w1) := HB0.out.trans (bb.mono HB0.out.size)
    clear bb
    go_wp2_with fail
    exact bodyPost_ret (v := .tuple #[.bool false, .int .i64 e1]) (by simp [results, Try.results13, go_sem]) rfl ⟨by rw [HX1.out, HX2.out], HB1.out⟩
end Go.Proofs.Ytnjjlnhchfoigaa
