/- Contracts over this translation: grants.allows, Allows. -/
import Derived.Test.YtnjjlnhchfoigabDoorGrAllow
namespace Go.Proofs.YtnjjlnhchfoigabDoor
open Go.RowKit
set_option linter.unusedVariables false
set_option linter.unusedSimpArgs false
theorem al_1 {r : Rl} {a : Ak} (h : hasB r.1 a.1 = false) : alB r a = false := by unfold alB; rw [h]; rfl
theorem al_2 {r : Rl} {a : Ak} (h : hasB r.1 a.1 = true) (g : hasB r.2.1 a.2.1 = false) : alB r a = false := by unfold alB; rw [h, g]; rfl
theorem al_3 {r : Rl} {a : Ak} (h : hasB r.1 a.1 = true) (g : hasB r.2.1 a.2.1 = true) : alB r a = nameOkB r.2.2 a.2.2.2 := by unfold alB; rw [h, g]; rfl
set_option maxRecDepth 100000 in
set_option maxHeartbeats 4000000 in
theorem allow1_any (r : Rl) (x y z : Value) (a : Ak) (w : World) (hx : Strs w x r.1) (hy : Strs w y r.2.1) (hz : Strs w z r.2.2) :
    Calls Tryd.prog 24 #[.agg #[x, y, z], askV a] w fun e w' => e = .returned (.bool (alB r a)) ∧ Below w.heap.size w w' := by
  have HE1 : Hid (hasB r.1 a.1 = false → alB r a = false) := al_1
  have HE2 : Hid (hasB r.1 a.1 = true → hasB r.2.1 a.2.1 = false → alB r a = false) := al_2
  have HE3 : Hid (hasB r.1 a.1 = true → hasB r.2.1 a.2.1 = true → alB r a = nameOkB r.2.2 a.2.2.2) := al_3
  obtain ⟨vb, kd, sp, nm⟩ := a
  obtain ⟨l1, l2, l3⟩ := r
  dsimp only [askV] at *
  obtain ⟨p1, c1, rfl, hn1⟩ := hx.form
  obtain ⟨p2, c2, rfl, hn2⟩ := hy.form
  obtain ⟨p3, c3, rfl, hn3⟩ := hz.form
  obtain ⟨w0, hw0⟩ : ∃ w0, w0 = w.alloc (.cells #[.slice p1 l1.length c1, .slice p2 l2.length c2, .slice p3 l3.length c3] 40) := ⟨_, rfl⟩
  obtain ⟨w2, hw2⟩ : ∃ w2, w2 = w0.alloc (.cells #[.string (Ba vb), .string (Ba kd), .string (Ba sp), .string (Ba nm)] 31) := ⟨_, rfl⟩
  have HW0 : Hid (w0 = w.alloc (.cells #[.slice p1 l1.length c1, .slice p2 l2.length c2, .slice p3 l3.length c3] 40)) := hw0
  have HW2 : Hid (w2 = w0.alloc (.cells #[.string (Ba vb), .string (Ba kd), .string (Ba sp), .string (Ba nm)] 31)) := hw2
  have hB2 : Below w0.heap.size w0 w2 := by rw [hw2]; exact (Below.refl _ _).alloc (Nat.le_refl _) _
  have hB0 : Below w.heap.size w w0 := by rw [hw0]; exact (Below.refl _ _).alloc (Nat.le_refl _) _
  have hs0 : w0.heap.size = w.heap.size + 1 := by rw [hw0]; simp
  have hBw := hB0.trans (hB2.mono hB0.size)
  have HB : Hid (Below w.heap.size w w2) := hBw
  have HS0 : Hid (w0.heap.size = w.heap.size + 1) := hs0
  obtain ⟨x0, x1, x2⟩ := bx3 (by rw [hw0] at hB2; exact hB2)
  have hyy : w2.cell? ⟨w0.heap.size, 0, none⟩ = some (.string (Ba vb)) ∧ w2.cell? ⟨w0.heap.size, 1, none⟩ = some (.string (Ba kd)) ∧ w2.cell? ⟨w0.heap.size, 2, none⟩ = some (.string (Ba sp)) ∧ w2.cell? ⟨w0.heap.size, 3, none⟩ = some (.string (Ba nm)) := by
    rw [hw2]; exact bx4 (Below.refl _ _)
  obtain ⟨y0, y1, y2, y3⟩ := hyy
  rw [hs0] at y0 y1 y2 y3
  have H1 : Hid (Calls Tryd.prog 44 #[.slice p1 l1.length c1, .string (Ba vb)] w2 fun e w' => e = .returned (.bool (hasB l1 vb)) ∧ w' = w2) := hasOr_any _ l1 vb w2 (hx.below hBw)
  have H2 : Hid (Calls Tryd.prog 44 #[.slice p2 l2.length c2, .string (Ba kd)] w2 fun e w' => e = .returned (.bool (hasB l2 kd)) ∧ w' = w2) := hasOr_any _ l2 kd w2 (hy.below hBw)
  have H3 : Hid (Calls Tryd.prog 45 #[.slice p3 l3.length c3, .string (Ba nm)] w2 fun e w' => e = .returned (.bool (nameOkB l3 nm)) ∧ w' = w2) := nameOk_any _ l3 nm w2 (hz.below hBw)
  clear hx hy hz hB0 hB2 hBw hs0 hw0 hw2
  generalize alB (l1, l2, l3) (vb, kd, sp, nm) = res at *
  generalize hasB l1 vb = b1 at *
  generalize hasB l2 kd = b2 at *
  generalize nameOkB l3 nm = b3 at *
  generalize Ba vb = s1 at *
  generalize Ba kd = s2 at *
  generalize Ba sp = s3 at *
  generalize Ba nm = s4 at *
  generalize l1.length = n1 at *
  generalize l2.length = n2 at *
  generalize l3.length = n3 at *
  unfold maxLen at hn1 hn2 hn3
  have HXX : Hid (w2.cell? ⟨w.heap.size, 0, none⟩ = some (.slice p1 n1 c1) ∧ w2.cell? ⟨w.heap.size, 1, none⟩ = some (.slice p2 n2 c2) ∧ w2.cell? ⟨w.heap.size, 2, none⟩ = some (.slice p3 n3 c3) ∧ w2.cell? ⟨w.heap.size + 1, 0, none⟩ = some (.string s1) ∧ w2.cell? ⟨w.heap.size + 1, 1, none⟩ = some (.string s2) ∧ w2.cell? ⟨w.heap.size + 1, 3, none⟩ = some (.string s4)) := ⟨x0, x1, x2, y0, y1, y3⟩
  clear x0 x1 x2 y0 y1 y2 y3
  cases b1 with
  | false =>
    have HR : Hid (res = false) := HE1.out rfl
    clear HE1 HE2 HE3
    go_enter Tryd.func24, Tryd.ntmps24
    go_wp2_with fail
    rw [← HW0.out, ← HW2.out]
    refine Calls.mono H1.out ?_
    rintro e w1 ⟨rfl, hw1⟩
    obtain rfl : w2 = w1 := hw1.symm
    go_wp2_with fail
    go_ret
    exact ⟨by rw [HR.out]; rfl, HB.out⟩
  | true =>
    cases b2 with
    | false =>
      have HR : Hid (res = false) := HE2.out rfl rfl
      clear HE1 HE2 HE3
      go_enter Tryd.func24, Tryd.ntmps24
      go_wp2_with fail
      rw [← HW0.out, ← HW2.out]
      refine Calls.mono H1.out ?_
      rintro e w1 ⟨rfl, hw1⟩
      obtain rfl : w2 = w1 := hw1.symm
      obtain ⟨x0, x1, x2, y0, y1, y3⟩ := HXX.out
      go_wp2_with fail
      refine Calls.mono H2.out ?_
      rintro e w1 ⟨rfl, hw1⟩
      obtain rfl : w2 = w1 := hw1.symm
      go_wp2_with fail
      go_ret
      exact ⟨by rw [HR.out]; rfl, HB.out⟩
    | true =>
      have HR : Hid (res = b3) := HE3.out rfl rfl
      clear HE1 HE2 HE3
      go_enter Tryd.func24, Tryd.ntmps24
      go_wp2_with fail
      rw [← HW0.out, ← HW2.out]
      refine Calls.mono H1.out ?_
      rintro e w1 ⟨rfl, hw1⟩
      obtain rfl : w2 = w1 := hw1.symm
      obtain ⟨x0, x1, x2, y0, y1, y3⟩ := HXX.out
      go_wp2_with fail
      refine Calls.mono H2.out ?_
      rintro e w1 ⟨rfl, hw1⟩
      obtain rfl : w2 = w1 := hw1.symm
      go_wp2_with fail
      refine Calls.mono H3.out ?_
      rintro e w1 ⟨rfl, hw1⟩
      obtain rfl : w2 = w1 := hw1.symm
      go_wp2_with fail
      go_ret
      exact ⟨by rw [HR.out]; rfl, HB.out⟩
theorem all_start (l : List Rl) (a : Ak) : allB l a = allB (l.drop 0) a := rfl
set_option maxRecDepth 100000 in
set_option maxHeartbeats 4000000 in
theorem allows_any (v : Value) (l : List Rl) (a : Ak) (w : World) (hv : Rls w v l) :
    Calls Tryd.prog 8 #[v, askV a] w fun e w' => e = .returned (.bool (allB l a)) ∧ Below w.heap.size w w' := by
  obtain ⟨p, c, rfl, hn, hcell⟩ := rls_open hv
  have HC : Hid (∀ k (hk : k < l.length), ∃ g o, p = some ⟨g, o, none⟩ ∧ l.length ≤ c ∧ g < w.heap.size ∧ ∀ w1, Below w.heap.size w w1 → ∃ p1 n1 c1 p2 n2 c2 p3 n3 c3,
      w1.cell? ⟨g, o + k * 3, none⟩ = some (.slice p1 n1 c1) ∧ w1.cell? ⟨g, o + k * 3 + 1, none⟩ = some (.slice p2 n2 c2) ∧ w1.cell? ⟨g, o + k * 3 + 2, none⟩ = some (.slice p3 n3 c3) ∧
      ∀ w2, Below w1.heap.size w1 w2 → Calls Tryd.prog 24 #[.agg #[.slice p1 n1 c1, .slice p2 n2 c2, .slice p3 n3 c3], askV a] w2 fun e w' => e = .returned (.bool (alB l[k] a)) ∧ Below w2.heap.size w2 w') := by
    intro k hk
    obtain ⟨g, o, h1, h2, h3, h4⟩ := hcell k hk
    refine ⟨g, o, h1, h2, h3, fun w1 hb => ?_⟩
    obtain ⟨p1, n1, c1, p2, n2, c2, p3, n3, c3, k1, k2, k3, s1, s2, s3⟩ := h4 w1 hb
    exact ⟨p1, n1, c1, p2, n2, c2, p3, n3, c3, k1, k2, k3, fun w2 hb2 => allow1_any l[k] _ _ _ a w2 (s1.below hb2) (s2.below hb2) (s3.below hb2)⟩
  have HX : Hid (allB l a = allB (l.drop 0) a) := all_start l a
  have HS0 : Hid (∀ k (hk : k < l.length), alB l[k] a = false → allB (l.drop k) a = allB (l.drop (k + 1)) a) := fun k hk h => all_step hk h
  have HT0 : Hid (∀ k (hk : k < l.length), alB l[k] a = true → allB (l.drop k) a = true) := fun k hk h => all_hit hk h
  have HEnd : Hid (∀ k, l.length ≤ k → allB (l.drop k) a = false) := fun k hk => all_end hk
  have HBx : Hid (∀ w1, Below (w.alloc (.cells #[.string (Ba a.1), .string (Ba a.2.1), .string (Ba a.2.2.1), .string (Ba a.2.2.2)] 31)).heap.size (w.alloc (.cells #[.string (Ba a.1), .string (Ba a.2.1), .string (Ba a.2.2.1), .string (Ba a.2.2.2)] 31)) w1 →
      w1.cell? ⟨w.heap.size, 0, none⟩ = some (.string (Ba a.1)) ∧ w1.cell? ⟨w.heap.size, 1, none⟩ = some (.string (Ba a.2.1)) ∧ w1.cell? ⟨w.heap.size, 2, none⟩ = some (.string (Ba a.2.2.1)) ∧ w1.cell? ⟨w.heap.size, 3, none⟩ = some (.string (Ba a.2.2.2))) := fun w1 h => bx4 h
  obtain ⟨w0, hw0⟩ : ∃ w0, w0 = w.alloc (.cells #[.string (Ba a.1), .string (Ba a.2.1), .string (Ba a.2.2.1), .string (Ba a.2.2.2)] 31) := ⟨_, rfl⟩
  have hB0 : Below w.heap.size w w0 := by rw [hw0]; exact (Below.refl _ _).alloc (Nat.le_refl _) _
  have HB0 : Hid (Below w.heap.size w w0) := hB0
  rw [← hw0] at HBx
  have HW0 : Hid (w0 = w.alloc (.cells #[.string (Ba a.1), .string (Ba a.2.1), .string (Ba a.2.2.1), .string (Ba a.2.2.2)] 31)) := hw0
  clear hcell hv hw0 hB0
  unfold askV at HC ⊢
  generalize allB l a = res at *
  unfold maxLen at hn
  generalize hy1 : Ba a.1 = y1 at *
  generalize hy2 : Ba a.2.1 = y2 at *
  generalize hy3 : Ba a.2.2.1 = y3 at *
  generalize hy4 : Ba a.2.2.2 = y4 at *
  clear hy1 hy2 hy3 hy4
  go_enter Tryd.func8, Tryd.ntmps8
  go_wp2_with fail
  rw [← HW0.out]
  go_loopw [9] (fun i wr => ∃ k : Nat, k ≤ l.length ∧ i = .int .i64 k ∧ res = allB (l.drop k) a ∧ Below w0.heap.size w0 wr) (fun i _ => l.length - (intOf i).toNat)
  case atStart => exact ⟨0, Nat.zero_le _, rfl, HX.out, Below.refl _ _⟩
  case round =>
    obtain ⟨k, hk, rfl, hall, hbel⟩ := hrel
    have HA : Hid (res = allB (l.drop k) a) := hall
    have HB : Hid (Below w0.heap.size w0 wr) := hbel
    have HBw : Hid (Below w.heap.size w wr) := HB0.out.trans (hbel.mono HB0.out.size)
    clear hall hbel
    by_cases hlt : k < l.length
    · obtain ⟨g, o, rfl, hlc, _, hc0⟩ := HC.out k hlt
      obtain ⟨p1, n1, c1, p2, n2, c2, p3, n3, c3, k1, k2, k3, hcall⟩ := hc0 wr HBw.out
      have HS := HS0.out k hlt
      have HT := HT0.out k hlt
      generalize alB l[k] a = pr at hcall HS HT
      have HP : Hid (∀ w2, Below wr.heap.size wr w2 → Calls Tryd.prog 24 #[.agg #[.slice p1 n1 c1, .slice p2 n2 c2, .slice p3 n3 c3], .agg #[.string y1, .string y2, .string y3, .string y4]] w2 fun e w' => e = .returned (.bool pr) ∧ Below w2.heap.size w2 w') := hcall
      have hBn : Below wr.heap.size wr (wr.alloc (.cells #[.slice p1 n1 c1, .slice p2 n2 c2, .slice p3 n3 c3] 40)) := (Below.refl _ _).alloc (Nat.le_refl _) _
      have HBn : Hid (Below wr.heap.size wr (wr.alloc (.cells #[.slice p1 n1 c1, .slice p2 n2 c2, .slice p3 n3 c3] 40))) := hBn
      have HBm : Hid (Below w0.heap.size w0 (wr.alloc (.cells #[.slice p1 n1 c1, .slice p2 n2 c2, .slice p3 n3 c3] 40))) := HB.out.trans (hBn.mono HB.out.size)
      obtain ⟨z0, z1, z2, z3⟩ := HBx.out _ HBm.out
      clear hc0 hcall hBn
      cases pr with
      | false =>
        have HN : Hid (res = allB (l.drop (k + 1)) a) := HA.out.trans (HS rfl)
        clear HS HT
        go_wp2_with fail
        refine Calls.mono (HP.out _ HBn.out) ?_
        rintro e w1 ⟨rfl, b1⟩
        have HB1 : Hid (Below w0.heap.size w0 w1) := HBm.out.trans (b1.mono HBm.out.size)
        clear b1
        go_wp2_with fail
        go_roundw
        case rel => exact ⟨k + 1, by omega, by go_num, HN.out, HB1.out⟩
        case measure => simp [intOf]; omega
      | true =>
        have HX2 : Hid (res = true) := HA.out.trans (HT rfl)
        clear HS HT
        go_wp2_with fail
        refine Calls.mono (HP.out _ HBn.out) ?_
        rintro e w1 ⟨rfl, b1⟩
        have HB1 : Hid (Below w0.heap.size w0 w1) := HBm.out.trans (b1.mono HBm.out.size)
        clear b1
        go_wp2_with fail
        go_ret
        exact ⟨by rw [HX2.out]; rfl, HB0.out.trans (HB1.out.mono HB0.out.size)⟩
    · have HX2 : Hid (res = false) := HA.out.trans (HEnd.out k (by omega))
      go_wp2_with fail
      go_ret
      exact ⟨by rw [HX2.out]; rfl, HBw.out⟩
end Go.Proofs.YtnjjlnhchfoigabDoor
