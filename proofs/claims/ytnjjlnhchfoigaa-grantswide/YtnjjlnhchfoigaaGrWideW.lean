/- The walk of the law GrantsWide over this translation. -/
import Derived.Test.YtnjjlnhchfoigaaGrHeldT
import Derived.Test.YtnjjlnhchfoigaaGrMay
import Derived.Test.YtnjjlnhchfoigaaGrNone
namespace Go.Proofs.Ytnjjlnhchfoigaa
open Go.RowKit
set_option linter.unusedVariables false
set_option linter.unusedSimpArgs false
def allSp (a : Ak) : Ak := (a.1, a.2.1, [], a.2.2.2)
theorem wide_off {rs : List Ro} {bs : List Bi} {n : Bs} {gs : List Bs} {a : Ak} (h : whyMayI rs bs n gs a ≠ 0) : mayB rs bs n gs a = false := by
  unfold mayB; rw [decide_eq_false h]; rfl
theorem may_on {rs : List Ro} {bs : List Bi} {n : Bs} {gs : List Bs} {a : Ak} (h : whyMayI rs bs n gs a = 0) : whyI rs bs n gs a.2.2.1 = 0 ∧ mayB rs bs n gs a = allB (heldE rs bs n gs a.2.2.1) a := by
  obtain ⟨h1, h2⟩ := orE_zero.1 h
  have h3 : whyI rs bs n gs a.2.2.1 = 0 := orE_zero.2 ⟨h1, (orE_zero.1 (orE_zero.1 h2).2).1⟩
  refine ⟨h3, ?_⟩
  rw [heldE_some h3]
  unfold mayB; rw [decide_eq_true h]; rfl
theorem wide_on {rs : List Ro} {bs : List Bi} {n : Bs} {gs : List Bs} {a : Ak} (h : whyMayI rs bs n gs (allSp a) = 0) (g : whyMayI rs bs n gs a = 0) :
    whyI rs bs n gs [] = 0 ∧ whyI rs bs n gs a.2.2.1 = 0 ∧ (heldE rs bs n gs []).length ≤ (heldE rs bs n gs a.2.2.1).length ∧ (mayB rs bs n gs (allSp a) = true → mayB rs bs n gs a = true) ∧
    allB (heldE rs bs n gs a.2.2.1) a = mayB rs bs n gs a ∧ allB (heldE rs bs n gs []) (allSp a) = mayB rs bs n gs (allSp a) := by
  obtain ⟨h1, h2⟩ := may_on h
  obtain ⟨g1, g2⟩ := may_on g
  have h1' : whyI rs bs n gs [] = 0 := h1
  have h2' : mayB rs bs n gs (allSp a) = allB (heldE rs bs n gs []) (allSp a) := h2
  refine ⟨h1', g1, ?_, fun hm => ?_, g2.symm, h2'.symm⟩
  · rw [heldE_some h1', heldE_some g1]
    exact held_wide_len rs bs n gs a.2.2.1
  · rw [h2', heldE_some h1'] at hm
    rw [g2, heldE_some g1]
    have : allB (heldP rs bs n gs []) a = true := hm
    exact allB_mono (fun r hr => held_wide a.2.2.1 hr) this
/-- the copy of what is asked, its space empty -/
theorem box_set {w1 : World} {a b c d : Value} {t : TypeId} {w' : World} (h : Below (w1.alloc (.cells #[a, b, c, d] t)).heap.size (w1.alloc (.cells #[a, b, c, d] t)) w') :
    (w'.cell? ⟨w1.heap.size, 0, none⟩ = some a ∧ w'.cell? ⟨w1.heap.size, 1, none⟩ = some b ∧ w'.cell? ⟨w1.heap.size, 2, none⟩ = some c ∧ w'.cell? ⟨w1.heap.size, 3, none⟩ = some d) ∧ Below w1.heap.size w1 w' := by
  refine ⟨bx4 h, ?_⟩
  have hb : Below w1.heap.size w1 (w1.alloc (.cells #[a, b, c, d] t)) := (Below.refl _ _).alloc (Nat.le_refl _) _
  exact hb.trans (h.mono hb.size)
set_option maxRecDepth 100000 in
set_option maxHeartbeats 16000000 in
theorem wide_walk (u v x : Value) (rs : List Ro) (bs : List Bi) (n : Bs) (gs : List Bs) (a : Ak) (w : World) (hg : Grs w u v rs bs) (hx : Strs w x gs) (hn : n.length ≤ maxLen) (hfg : FitS gs) (hfa : FitA a) :
    Calls Try.prog 6 #[.agg #[u, v], .agg #[.string (Ba n), x], askV a] w fun e w' => e = .returned (.bool true) ∧ Below w.heap.size w w' := by
  obtain ⟨p, c, rfl, hn1⟩ := Sq.form hg.ros
  obtain ⟨p2, c2, rfl, hn2⟩ := Sq.form hg.bis
  obtain ⟨px, cx, rfl, hnx⟩ := hx.form
  have HM1 : Hid (∀ w1, Below w.heap.size w w1 → Calls Try.prog 13 #[.agg #[.slice p rs.length c, .slice p2 bs.length c2], .agg #[.string (Ba n), .slice px gs.length cx], askV (allSp a)] w1 fun e w' => e = .returned (.tuple #[.bool (mayB rs bs n gs (allSp a)), .int .i64 (whyMayI rs bs n gs (allSp a))]) ∧ Below w1.heap.size w1 w') := fun w1 hb => may_any _ _ _ rs bs n gs (allSp a) w1 (hg.below hb) (hx.below hb) hn hfg ⟨hfa.1, hfa.2.1, Nat.zero_le _, hfa.2.2.2⟩
  have HM2 : Hid (∀ w1, Below w.heap.size w w1 → Calls Try.prog 13 #[.agg #[.slice p rs.length c, .slice p2 bs.length c2], .agg #[.string (Ba n), .slice px gs.length cx], askV a] w1 fun e w' => e = .returned (.tuple #[.bool (mayB rs bs n gs a), .int .i64 (whyMayI rs bs n gs a)]) ∧ Below w1.heap.size w1 w') := fun w1 hb => may_any _ _ _ rs bs n gs a w1 (hg.below hb) (hx.below hb) hn hfg hfa
  have HH1 : Hid (∀ w1, Below w.heap.size w w1 → Calls Try.prog 11 #[.agg #[.slice p rs.length c, .slice p2 bs.length c2], .agg #[.string (Ba n), .slice px gs.length cx], .string { data := #[] }] w1 fun e w' => ∃ p c, e = .returned (.tuple #[.slice p (heldE rs bs n gs []).length c, .int .i64 (whyI rs bs n gs [])]) ∧ Rls w' (.slice p (heldE rs bs n gs []).length c) (heldE rs bs n gs []) ∧ Below w1.heap.size w1 w') := fun w1 hb => by
    refine (heldT_any _ _ _ rs bs n gs [] w1 (hg.below hb) (hx.below hb) hn hfg (Nat.zero_le _)).mono ?_
    rintro e w2 ⟨y, rfl, ht, b2⟩
    obtain ⟨p, c, rfl, _⟩ := Sq.form ht.rls
    exact ⟨p, c, rfl, ht.rls, b2⟩
  have HH2 : Hid (∀ w1, Below w.heap.size w w1 → Calls Try.prog 11 #[.agg #[.slice p rs.length c, .slice p2 bs.length c2], .agg #[.string (Ba n), .slice px gs.length cx], .string (Ba a.2.2.1)] w1 fun e w' => ∃ p c, e = .returned (.tuple #[.slice p (heldE rs bs n gs a.2.2.1).length c, .int .i64 (whyI rs bs n gs a.2.2.1)]) ∧ Rls w' (.slice p (heldE rs bs n gs a.2.2.1).length c) (heldE rs bs n gs a.2.2.1) ∧ Below w1.heap.size w1 w') := fun w1 hb => by
    refine (heldT_any _ _ _ rs bs n gs a.2.2.1 w1 (hg.below hb) (hx.below hb) hn hfg hfa.2.2.1).mono ?_
    rintro e w2 ⟨y, rfl, ht, b2⟩
    obtain ⟨p, c, rfl, _⟩ := Sq.form ht.rls
    exact ⟨p, c, rfl, ht.rls, b2⟩
  have HN : Hid (∀ w, Calls Try.prog 21 #[] w fun e w' => e = .returned (.bool true) ∧ Below w.heap.size w w') := none_any
  have HA1 : Hid (∀ p c w1, Rls w1 (.slice p (heldE rs bs n gs []).length c) (heldE rs bs n gs []) → Calls Try.prog 17 #[.slice p (heldE rs bs n gs []).length c, askV (allSp a)] w1 fun e w' => e = .returned (.bool (allB (heldE rs bs n gs []) (allSp a))) ∧ Below w1.heap.size w1 w') := fun p c w1 h => allows_any _ _ _ w1 h
  have HA2 : Hid (∀ p c w1, Rls w1 (.slice p (heldE rs bs n gs a.2.2.1).length c) (heldE rs bs n gs a.2.2.1) → Calls Try.prog 17 #[.slice p (heldE rs bs n gs a.2.2.1).length c, askV a] w1 fun e w' => e = .returned (.bool (allB (heldE rs bs n gs a.2.2.1) a)) ∧ Below w1.heap.size w1 w') := fun p c w1 h => allows_any _ _ _ w1 h
  have HOff : Hid (whyMayI rs bs n gs (allSp a) ≠ 0 → mayB rs bs n gs (allSp a) = false) := wide_off
  have HOn : Hid (whyMayI rs bs n gs (allSp a) = 0 → whyMayI rs bs n gs a = 0 → whyI rs bs n gs [] = 0 ∧ whyI rs bs n gs a.2.2.1 = 0 ∧ (heldE rs bs n gs []).length ≤ (heldE rs bs n gs a.2.2.1).length ∧ (mayB rs bs n gs (allSp a) = true → mayB rs bs n gs a = true) ∧
    allB (heldE rs bs n gs a.2.2.1) a = mayB rs bs n gs a ∧ allB (heldE rs bs n gs []) (allSp a) = mayB rs bs n gs (allSp a)) := wide_on
  have HRl : ∀ (q : List Rl) (p : Option Addr) (c : Nat) (w1 w2 : World), Rls w1 (.slice p q.length c) q → Below w1.heap.size w1 w2 → Rls w2 (.slice p q.length c) q := fun q p c w1 w2 h hb => Sq.below rlAt_stays h hb
  have HR1 : Hid (∀ (p : Option Addr) (c : Nat) (w1 w2 : World), Rls w1 (.slice p (heldE rs bs n gs []).length c) (heldE rs bs n gs []) → Below w1.heap.size w1 w2 → Rls w2 (.slice p (heldE rs bs n gs []).length c) (heldE rs bs n gs [])) := fun p c w1 w2 => HRl _ p c w1 w2
  have HR2 : Hid (∀ (p : Option Addr) (c : Nat) (w1 w2 : World), Rls w1 (.slice p (heldE rs bs n gs a.2.2.1).length c) (heldE rs bs n gs a.2.2.1) → Below w1.heap.size w1 w2 → Rls w2 (.slice p (heldE rs bs n gs a.2.2.1).length c) (heldE rs bs n gs a.2.2.1)) := fun p c w1 w2 => HRl _ p c w1 w2
  clear HRl hg hx hn hfg hfa
  generalize hH1 : heldE rs bs n gs [] = H1 at *
  generalize hH2 : heldE rs bs n gs a.2.2.1 = H2 at *
  clear hH1 hH2
  generalize mayB rs bs n gs (allSp a) = x1 at *
  generalize whyMayI rs bs n gs (allSp a) = e1 at *
  generalize mayB rs bs n gs a = x2 at *
  generalize whyMayI rs bs n gs a = e2 at *
  generalize whyI rs bs n gs [] = e3 at *
  generalize whyI rs bs n gs a.2.2.1 = e4 at *
  generalize allB H2 a = y2 at *
  generalize allB H1 (allSp a) = y1 at *
  obtain ⟨vb, kd, sp, nm⟩ := a
  dsimp only [askV, allSp] at *
  generalize rs.length = l1 at *
  generalize bs.length = l2 at *
  generalize gs.length = l3 at *
  generalize Ba n = yn at *
  generalize Ba vb = s1 at *
  generalize Ba kd = s2 at *
  generalize Ba sp = s3 at *
  generalize Ba nm = s4 at *
  obtain ⟨w1, hw1⟩ : ∃ w1, w1 = ((w.alloc (.cells #[.slice p l1 c, .slice p2 l2 c2] 25)).alloc (.cells #[.string yn, .slice px l3 cx] 34)).alloc (.cells #[.string s1, .string s2, .string s3, .string s4] 27) := ⟨_, rfl⟩
  have hs1 : w1.heap.size = w.heap.size + 3 := by rw [hw1]; simp
  have hB1 : Below w.heap.size w w1 := by rw [hw1]; exact (((Below.refl _ _).alloc (Nat.le_refl _) _).alloc (by simp) _).alloc (by simp; omega) _
  obtain ⟨w0, hw0⟩ : ∃ w0, w0 = w1.alloc (.cells #[.string s1, .string s2, .string { data := #[] }, .string s4] 27) := ⟨_, rfl⟩
  have HBx : Hid (∀ w', Below w0.heap.size w0 w' →
      ((w'.cell? ⟨w.heap.size, 0, none⟩ = some (.slice p l1 c) ∧ w'.cell? ⟨w.heap.size, 1, none⟩ = some (.slice p2 l2 c2) ∧ w'.cell? ⟨w.heap.size + 1, 0, none⟩ = some (.string yn) ∧ w'.cell? ⟨w.heap.size + 1, 1, none⟩ = some (.slice px l3 cx)) ∧
      w'.cell? ⟨w.heap.size + 2, 0, none⟩ = some (.string s1) ∧ w'.cell? ⟨w.heap.size + 2, 1, none⟩ = some (.string s2) ∧ w'.cell? ⟨w.heap.size + 2, 2, none⟩ = some (.string s3) ∧ w'.cell? ⟨w.heap.size + 2, 3, none⟩ = some (.string s4)) ∧
      w'.cell? ⟨w.heap.size + 3, 0, none⟩ = some (.string s1) ∧ w'.cell? ⟨w.heap.size + 3, 1, none⟩ = some (.string s2) ∧ w'.cell? ⟨w.heap.size + 3, 2, none⟩ = some (.string { data := #[] }) ∧ w'.cell? ⟨w.heap.size + 3, 3, none⟩ = some (.string s4)) := fun w' h => by
    rw [hw0] at h
    obtain ⟨k1, k2⟩ := box_set h
    rw [hs1] at k1
    rw [hw1] at k2
    exact ⟨bxs3 k2, k1⟩
  have hB0 : Below w.heap.size w w0 := by
    rw [hw0]
    have hb : Below w1.heap.size w1 (w1.alloc (.cells #[.string s1, .string s2, .string { data := #[] }, .string s4] 27)) := (Below.refl _ _).alloc (Nat.le_refl _) _
    exact hB1.trans (hb.mono hB1.size)
  have HB0 : Hid (Below w.heap.size w w0) := hB0
  have HW1 : Hid (w1 = ((w.alloc (.cells #[.slice p l1 c, .slice p2 l2 c2] 25)).alloc (.cells #[.string yn, .slice px l3 cx] 34)).alloc (.cells #[.string s1, .string s2, .string s3, .string s4] 27)) := hw1
  have HS1 : Hid (w1.heap.size = w.heap.size + 3) := hs1
  have HW0 : Hid (w0 = w1.alloc (.cells #[.string s1, .string s2, .string { data := #[] }, .string s4] 27)) := hw0
  clear hw1 hs1 hB1 hw0 hB0
  unfold maxLen at hn1 hn2 hnx
  by_cases h1 : e1 = 0
  · have b1 : (e1 != 0) = false := by simp [h1]
    have b1e : (e1 == 0) = true := by simp [h1]
    by_cases h2 : e2 = 0
    · have b2 : (e2 != 0) = false := by simp [h2]
      obtain ⟨k1, k2, k3, k4, k5, k6⟩ := HOn.out h1 h2
      have b3 : (e3 == 0) = true := by simp [k1]
      have b4 : (e4 == 0) = true := by simp [k2]
      have K3 : (H1.length : Int) ≤ (H2.length : Int) := by omega
      have K4 : Hid (x1 = true → x2 = true) := k4
      subst k5 k6
      clear k1 k2 k3 k4 h1 h2 HOn HOff
      cases y1 with
      | true =>
        have hy : y2 = true := K4.out rfl
        subst hy
        clear K4
        go_enter Try.func6, Try.ntmps6
        go_wp2_with fail
        rw [← HW1.out, ← HW0.out]
        refine Calls.mono (HM1.out _ HB0.out) ?_
        rintro e wa ⟨rfl, bb⟩
        have HCa : Hid (Below w0.heap.size w0 wa) := bb
        have HBa : Hid (Below w.heap.size w wa) := HB0.out.trans (bb.mono HB0.out.size)
        clear bb
        obtain ⟨⟨⟨x0, x1', x2', x3⟩, x4, x5, x6, x7⟩, z0, z1, z2, z3⟩ := HBx.out wa HCa.out
        go_wp2_with fail
        refine Calls.mono (HM2.out _ HBa.out) ?_
        rintro e wb ⟨rfl, bb⟩
        have HCb : Hid (Below w0.heap.size w0 wb) := HCa.out.trans (bb.mono HCa.out.size)
        have HBb : Hid (Below w.heap.size w wb) := HBa.out.trans (bb.mono HBa.out.size)
        clear bb x0 x1' x2' x3 x4 x5 x6 x7 z0 z1 z2 z3
        obtain ⟨⟨⟨x0, x1', x2', x3⟩, x4, x5, x6, x7⟩, z0, z1, z2, z3⟩ := HBx.out wb HCb.out
        go_wp2_with fail
        refine Calls.mono (HH1.out _ HBb.out) ?_
        rintro e wc ⟨pa, ca, rfl, hr1, bb⟩
        have HCc : Hid (Below w0.heap.size w0 wc) := HCb.out.trans (bb.mono HCb.out.size)
        have HBc : Hid (Below w.heap.size w wc) := HBb.out.trans (bb.mono HBb.out.size)
        have HRa : Hid (Rls wc (.slice pa H1.length ca) H1) := hr1
        clear bb hr1 x0 x1' x2' x3 x4 x5 x6 x7 z0 z1 z2 z3
        obtain ⟨⟨⟨x0, x1', x2', x3⟩, x4, x5, x6, x7⟩, z0, z1, z2, z3⟩ := HBx.out wc HCc.out
        go_wp2_with fail
        refine Calls.mono (HH2.out _ HBc.out) ?_
        rintro e wd ⟨pb, cb, rfl, hr2, bb⟩
        have HCd : Hid (Below w0.heap.size w0 wd) := HCc.out.trans (bb.mono HCc.out.size)
        have HBd : Hid (Below w.heap.size w wd) := HBc.out.trans (bb.mono HBc.out.size)
        have HRb : Hid (Rls wd (.slice pb H2.length cb) H2) := hr2
        have HRc : Hid (Rls wd (.slice pa H1.length ca) H1) := HR1.out _ _ _ _ HRa.out bb
        clear bb hr2 x0 x1' x2' x3 x4 x5 x6 x7 z0 z1 z2 z3
        go_wp2_with fail
        refine Calls.mono (HN.out _) ?_
        rintro e we ⟨rfl, bb⟩
        have HCe : Hid (Below w0.heap.size w0 we) := HCd.out.trans (bb.mono HCd.out.size)
        have HBe : Hid (Below w.heap.size w we) := HBd.out.trans (bb.mono HBd.out.size)
        have HRd : Hid (Rls we (.slice pb H2.length cb) H2) := HR2.out _ _ _ _ HRb.out bb
        have HRe : Hid (Rls we (.slice pa H1.length ca) H1) := HR1.out _ _ _ _ HRc.out bb
        clear bb
        obtain ⟨⟨⟨x0, x1', x2', x3⟩, x4, x5, x6, x7⟩, z0, z1, z2, z3⟩ := HBx.out we HCe.out
        go_wp2_with fail
        refine Calls.mono (HA2.out _ _ _ HRd.out) ?_
        rintro e wf ⟨rfl, bb⟩
        have HCf : Hid (Below w0.heap.size w0 wf) := HCe.out.trans (bb.mono HCe.out.size)
        have HBf : Hid (Below w.heap.size w wf) := HBe.out.trans (bb.mono HBe.out.size)
        have HRf : Hid (Rls wf (.slice pa H1.length ca) H1) := HR1.out _ _ _ _ HRe.out bb
        clear bb x0 x1' x2' x3 x4 x5 x6 x7 z0 z1 z2 z3
        obtain ⟨⟨⟨x0, x1', x2', x3⟩, x4, x5, x6, x7⟩, z0, z1, z2, z3⟩ := HBx.out wf HCf.out
        go_wp2_with fail
        refine Calls.mono (HA1.out _ _ _ HRf.out) ?_
        rintro e wg ⟨rfl, bb⟩
        have HBg : Hid (Below w.heap.size w wg) := HBf.out.trans (bb.mono HBf.out.size)
        clear bb
        go_wp2_with fail
        go_ret
        exact ⟨rfl, HBg.out⟩
      | false =>
        clear K4
        cases y2 with
        | true =>
          go_enter Try.func6, Try.ntmps6
          go_wp2_with fail
          rw [← HW1.out, ← HW0.out]
          refine Calls.mono (HM1.out _ HB0.out) ?_
          rintro e wa ⟨rfl, bb⟩
          have HCa : Hid (Below w0.heap.size w0 wa) := bb
          have HBa : Hid (Below w.heap.size w wa) := HB0.out.trans (bb.mono HB0.out.size)
          clear bb
          obtain ⟨⟨⟨x0, x1', x2', x3⟩, x4, x5, x6, x7⟩, z0, z1, z2, z3⟩ := HBx.out wa HCa.out
          go_wp2_with fail
          refine Calls.mono (HM2.out _ HBa.out) ?_
          rintro e wb ⟨rfl, bb⟩
          have HCb : Hid (Below w0.heap.size w0 wb) := HCa.out.trans (bb.mono HCa.out.size)
          have HBb : Hid (Below w.heap.size w wb) := HBa.out.trans (bb.mono HBa.out.size)
          clear bb x0 x1' x2' x3 x4 x5 x6 x7 z0 z1 z2 z3
          obtain ⟨⟨⟨x0, x1', x2', x3⟩, x4, x5, x6, x7⟩, z0, z1, z2, z3⟩ := HBx.out wb HCb.out
          go_wp2_with fail
          refine Calls.mono (HH1.out _ HBb.out) ?_
          rintro e wc ⟨pa, ca, rfl, hr1, bb⟩
          have HCc : Hid (Below w0.heap.size w0 wc) := HCb.out.trans (bb.mono HCb.out.size)
          have HBc : Hid (Below w.heap.size w wc) := HBb.out.trans (bb.mono HBb.out.size)
          have HRa : Hid (Rls wc (.slice pa H1.length ca) H1) := hr1
          clear bb hr1 x0 x1' x2' x3 x4 x5 x6 x7 z0 z1 z2 z3
          obtain ⟨⟨⟨x0, x1', x2', x3⟩, x4, x5, x6, x7⟩, z0, z1, z2, z3⟩ := HBx.out wc HCc.out
          go_wp2_with fail
          refine Calls.mono (HH2.out _ HBc.out) ?_
          rintro e wd ⟨pb, cb, rfl, hr2, bb⟩
          have HCd : Hid (Below w0.heap.size w0 wd) := HCc.out.trans (bb.mono HCc.out.size)
          have HBd : Hid (Below w.heap.size w wd) := HBc.out.trans (bb.mono HBc.out.size)
          have HRb : Hid (Rls wd (.slice pb H2.length cb) H2) := hr2
          have HRc : Hid (Rls wd (.slice pa H1.length ca) H1) := HR1.out _ _ _ _ HRa.out bb
          clear bb hr2 x0 x1' x2' x3 x4 x5 x6 x7 z0 z1 z2 z3
          go_wp2_with fail
          refine Calls.mono (HN.out _) ?_
          rintro e we ⟨rfl, bb⟩
          have HCe : Hid (Below w0.heap.size w0 we) := HCd.out.trans (bb.mono HCd.out.size)
          have HBe : Hid (Below w.heap.size w we) := HBd.out.trans (bb.mono HBd.out.size)
          have HRd : Hid (Rls we (.slice pb H2.length cb) H2) := HR2.out _ _ _ _ HRb.out bb
          have HRe : Hid (Rls we (.slice pa H1.length ca) H1) := HR1.out _ _ _ _ HRc.out bb
          clear bb
          obtain ⟨⟨⟨x0, x1', x2', x3⟩, x4, x5, x6, x7⟩, z0, z1, z2, z3⟩ := HBx.out we HCe.out
          go_wp2_with fail
          refine Calls.mono (HA2.out _ _ _ HRd.out) ?_
          rintro e wf ⟨rfl, bb⟩
          have HCf : Hid (Below w0.heap.size w0 wf) := HCe.out.trans (bb.mono HCe.out.size)
          have HBf : Hid (Below w.heap.size w wf) := HBe.out.trans (bb.mono HBe.out.size)
          have HRf : Hid (Rls wf (.slice pa H1.length ca) H1) := HR1.out _ _ _ _ HRe.out bb
          clear bb x0 x1' x2' x3 x4 x5 x6 x7 z0 z1 z2 z3
          obtain ⟨⟨⟨x0, x1', x2', x3⟩, x4, x5, x6, x7⟩, z0, z1, z2, z3⟩ := HBx.out wf HCf.out
          go_wp2_with fail
          refine Calls.mono (HA1.out _ _ _ HRf.out) ?_
          rintro e wg ⟨rfl, bb⟩
          have HBg : Hid (Below w.heap.size w wg) := HBf.out.trans (bb.mono HBf.out.size)
          clear bb
          go_wp2_with fail
          go_ret
          exact ⟨rfl, HBg.out⟩
        | false =>
          go_enter Try.func6, Try.ntmps6
          go_wp2_with fail
          rw [← HW1.out, ← HW0.out]
          refine Calls.mono (HM1.out _ HB0.out) ?_
          rintro e wa ⟨rfl, bb⟩
          have HCa : Hid (Below w0.heap.size w0 wa) := bb
          have HBa : Hid (Below w.heap.size w wa) := HB0.out.trans (bb.mono HB0.out.size)
          clear bb
          obtain ⟨⟨⟨x0, x1', x2', x3⟩, x4, x5, x6, x7⟩, z0, z1, z2, z3⟩ := HBx.out wa HCa.out
          go_wp2_with fail
          refine Calls.mono (HM2.out _ HBa.out) ?_
          rintro e wb ⟨rfl, bb⟩
          have HCb : Hid (Below w0.heap.size w0 wb) := HCa.out.trans (bb.mono HCa.out.size)
          have HBb : Hid (Below w.heap.size w wb) := HBa.out.trans (bb.mono HBa.out.size)
          clear bb x0 x1' x2' x3 x4 x5 x6 x7 z0 z1 z2 z3
          obtain ⟨⟨⟨x0, x1', x2', x3⟩, x4, x5, x6, x7⟩, z0, z1, z2, z3⟩ := HBx.out wb HCb.out
          go_wp2_with fail
          refine Calls.mono (HH1.out _ HBb.out) ?_
          rintro e wc ⟨pa, ca, rfl, hr1, bb⟩
          have HCc : Hid (Below w0.heap.size w0 wc) := HCb.out.trans (bb.mono HCb.out.size)
          have HBc : Hid (Below w.heap.size w wc) := HBb.out.trans (bb.mono HBb.out.size)
          have HRa : Hid (Rls wc (.slice pa H1.length ca) H1) := hr1
          clear bb hr1 x0 x1' x2' x3 x4 x5 x6 x7 z0 z1 z2 z3
          obtain ⟨⟨⟨x0, x1', x2', x3⟩, x4, x5, x6, x7⟩, z0, z1, z2, z3⟩ := HBx.out wc HCc.out
          go_wp2_with fail
          refine Calls.mono (HH2.out _ HBc.out) ?_
          rintro e wd ⟨pb, cb, rfl, hr2, bb⟩
          have HCd : Hid (Below w0.heap.size w0 wd) := HCc.out.trans (bb.mono HCc.out.size)
          have HBd : Hid (Below w.heap.size w wd) := HBc.out.trans (bb.mono HBc.out.size)
          have HRb : Hid (Rls wd (.slice pb H2.length cb) H2) := hr2
          have HRc : Hid (Rls wd (.slice pa H1.length ca) H1) := HR1.out _ _ _ _ HRa.out bb
          clear bb hr2 x0 x1' x2' x3 x4 x5 x6 x7 z0 z1 z2 z3
          go_wp2_with fail
          refine Calls.mono (HN.out _) ?_
          rintro e we ⟨rfl, bb⟩
          have HCe : Hid (Below w0.heap.size w0 we) := HCd.out.trans (bb.mono HCd.out.size)
          have HBe : Hid (Below w.heap.size w we) := HBd.out.trans (bb.mono HBd.out.size)
          have HRd : Hid (Rls we (.slice pb H2.length cb) H2) := HR2.out _ _ _ _ HRb.out bb
          have HRe : Hid (Rls we (.slice pa H1.length ca) H1) := HR1.out _ _ _ _ HRc.out bb
          clear bb
          obtain ⟨⟨⟨x0, x1', x2', x3⟩, x4, x5, x6, x7⟩, z0, z1, z2, z3⟩ := HBx.out we HCe.out
          go_wp2_with fail
          refine Calls.mono (HA2.out _ _ _ HRd.out) ?_
          rintro e wf ⟨rfl, bb⟩
          have HCf : Hid (Below w0.heap.size w0 wf) := HCe.out.trans (bb.mono HCe.out.size)
          have HBf : Hid (Below w.heap.size w wf) := HBe.out.trans (bb.mono HBe.out.size)
          have HRf : Hid (Rls wf (.slice pa H1.length ca) H1) := HR1.out _ _ _ _ HRe.out bb
          clear bb x0 x1' x2' x3 x4 x5 x6 x7 z0 z1 z2 z3
          obtain ⟨⟨⟨x0, x1', x2', x3⟩, x4, x5, x6, x7⟩, z0, z1, z2, z3⟩ := HBx.out wf HCf.out
          go_wp2_with fail
          refine Calls.mono (HA1.out _ _ _ HRf.out) ?_
          rintro e wg ⟨rfl, bb⟩
          have HBg : Hid (Below w.heap.size w wg) := HBf.out.trans (bb.mono HBf.out.size)
          clear bb
          go_wp2_with fail
          go_ret
          exact ⟨rfl, HBg.out⟩
    · have b2 : (e2 != 0) = true := by simpa using h2
      clear HOn HOff h1 h2
      cases x1 with
      | true =>
        go_enter Try.func6, Try.ntmps6
        go_wp2_with fail
        rw [← HW1.out, ← HW0.out]
        refine Calls.mono (HM1.out _ HB0.out) ?_
        rintro e wa ⟨rfl, bb⟩
        have HCa : Hid (Below w0.heap.size w0 wa) := bb
        have HBa : Hid (Below w.heap.size w wa) := HB0.out.trans (bb.mono HB0.out.size)
        clear bb
        obtain ⟨⟨⟨x0, x1', x2', x3⟩, x4, x5, x6, x7⟩, z0, z1, z2, z3⟩ := HBx.out wa HCa.out
        go_wp2_with fail
        refine Calls.mono (HM2.out _ HBa.out) ?_
        rintro e wb ⟨rfl, bb⟩
        have HCb : Hid (Below w0.heap.size w0 wb) := HCa.out.trans (bb.mono HCa.out.size)
        have HBb : Hid (Below w.heap.size w wb) := HBa.out.trans (bb.mono HBa.out.size)
        clear bb x0 x1' x2' x3 x4 x5 x6 x7 z0 z1 z2 z3
        obtain ⟨⟨⟨x0, x1', x2', x3⟩, x4, x5, x6, x7⟩, z0, z1, z2, z3⟩ := HBx.out wb HCb.out
        go_wp2_with fail
        refine Calls.mono (HH1.out _ HBb.out) ?_
        rintro e wc ⟨pa, ca, rfl, hr1, bb⟩
        have HCc : Hid (Below w0.heap.size w0 wc) := HCb.out.trans (bb.mono HCb.out.size)
        have HBc : Hid (Below w.heap.size w wc) := HBb.out.trans (bb.mono HBb.out.size)
        have HRa : Hid (Rls wc (.slice pa H1.length ca) H1) := hr1
        clear bb hr1 x0 x1' x2' x3 x4 x5 x6 x7 z0 z1 z2 z3
        obtain ⟨⟨⟨x0, x1', x2', x3⟩, x4, x5, x6, x7⟩, z0, z1, z2, z3⟩ := HBx.out wc HCc.out
        go_wp2_with fail
        refine Calls.mono (HH2.out _ HBc.out) ?_
        rintro e wd ⟨pb, cb, rfl, hr2, bb⟩
        have HCd : Hid (Below w0.heap.size w0 wd) := HCc.out.trans (bb.mono HCc.out.size)
        have HBd : Hid (Below w.heap.size w wd) := HBc.out.trans (bb.mono HBc.out.size)
        have HRb : Hid (Rls wd (.slice pb H2.length cb) H2) := hr2
        have HRc : Hid (Rls wd (.slice pa H1.length ca) H1) := HR1.out _ _ _ _ HRa.out bb
        clear bb hr2 x0 x1' x2' x3 x4 x5 x6 x7 z0 z1 z2 z3
        go_wp2_with fail
        refine Calls.mono (HN.out _) ?_
        rintro e we ⟨rfl, bb⟩
        have HCe : Hid (Below w0.heap.size w0 we) := HCd.out.trans (bb.mono HCd.out.size)
        have HBe : Hid (Below w.heap.size w we) := HBd.out.trans (bb.mono HBd.out.size)
        have HRd : Hid (Rls we (.slice pb H2.length cb) H2) := HR2.out _ _ _ _ HRb.out bb
        have HRe : Hid (Rls we (.slice pa H1.length ca) H1) := HR1.out _ _ _ _ HRc.out bb
        clear bb
        obtain ⟨⟨⟨x0, x1', x2', x3⟩, x4, x5, x6, x7⟩, z0, z1, z2, z3⟩ := HBx.out we HCe.out
        go_wp2_with fail
        go_ret
        exact ⟨rfl, HBe.out⟩
      | false =>
        go_enter Try.func6, Try.ntmps6
        go_wp2_with fail
        rw [← HW1.out, ← HW0.out]
        refine Calls.mono (HM1.out _ HB0.out) ?_
        rintro e wa ⟨rfl, bb⟩
        have HCa : Hid (Below w0.heap.size w0 wa) := bb
        have HBa : Hid (Below w.heap.size w wa) := HB0.out.trans (bb.mono HB0.out.size)
        clear bb
        obtain ⟨⟨⟨x0, x1', x2', x3⟩, x4, x5, x6, x7⟩, z0, z1, z2, z3⟩ := HBx.out wa HCa.out
        go_wp2_with fail
        refine Calls.mono (HM2.out _ HBa.out) ?_
        rintro e wb ⟨rfl, bb⟩
        have HCb : Hid (Below w0.heap.size w0 wb) := HCa.out.trans (bb.mono HCa.out.size)
        have HBb : Hid (Below w.heap.size w wb) := HBa.out.trans (bb.mono HBa.out.size)
        clear bb x0 x1' x2' x3 x4 x5 x6 x7 z0 z1 z2 z3
        obtain ⟨⟨⟨x0, x1', x2', x3⟩, x4, x5, x6, x7⟩, z0, z1, z2, z3⟩ := HBx.out wb HCb.out
        go_wp2_with fail
        refine Calls.mono (HH1.out _ HBb.out) ?_
        rintro e wc ⟨pa, ca, rfl, hr1, bb⟩
        have HCc : Hid (Below w0.heap.size w0 wc) := HCb.out.trans (bb.mono HCb.out.size)
        have HBc : Hid (Below w.heap.size w wc) := HBb.out.trans (bb.mono HBb.out.size)
        have HRa : Hid (Rls wc (.slice pa H1.length ca) H1) := hr1
        clear bb hr1 x0 x1' x2' x3 x4 x5 x6 x7 z0 z1 z2 z3
        obtain ⟨⟨⟨x0, x1', x2', x3⟩, x4, x5, x6, x7⟩, z0, z1, z2, z3⟩ := HBx.out wc HCc.out
        go_wp2_with fail
        refine Calls.mono (HH2.out _ HBc.out) ?_
        rintro e wd ⟨pb, cb, rfl, hr2, bb⟩
        have HCd : Hid (Below w0.heap.size w0 wd) := HCc.out.trans (bb.mono HCc.out.size)
        have HBd : Hid (Below w.heap.size w wd) := HBc.out.trans (bb.mono HBc.out.size)
        have HRb : Hid (Rls wd (.slice pb H2.length cb) H2) := hr2
        have HRc : Hid (Rls wd (.slice pa H1.length ca) H1) := HR1.out _ _ _ _ HRa.out bb
        clear bb hr2 x0 x1' x2' x3 x4 x5 x6 x7 z0 z1 z2 z3
        go_wp2_with fail
        refine Calls.mono (HN.out _) ?_
        rintro e we ⟨rfl, bb⟩
        have HCe : Hid (Below w0.heap.size w0 we) := HCd.out.trans (bb.mono HCd.out.size)
        have HBe : Hid (Below w.heap.size w we) := HBd.out.trans (bb.mono HBd.out.size)
        have HRd : Hid (Rls we (.slice pb H2.length cb) H2) := HR2.out _ _ _ _ HRb.out bb
        have HRe : Hid (Rls we (.slice pa H1.length ca) H1) := HR1.out _ _ _ _ HRc.out bb
        clear bb
        obtain ⟨⟨⟨x0, x1', x2', x3⟩, x4, x5, x6, x7⟩, z0, z1, z2, z3⟩ := HBx.out we HCe.out
        go_wp2_with fail
        go_ret
        exact ⟨rfl, HBe.out⟩
  · have b1 : (e1 != 0) = true := by simpa using h1
    have hx1 : x1 = false := HOff.out h1
    subst hx1
    clear HOn HOff h1
    go_enter Try.func6, Try.ntmps6
    go_wp2_with fail
    rw [← HW1.out, ← HW0.out]
    refine Calls.mono (HM1.out _ HB0.out) ?_
    rintro e wa ⟨rfl, bb⟩
    have HCa : Hid (Below w0.heap.size w0 wa) := bb
    have HBa : Hid (Below w.heap.size w wa) := HB0.out.trans (bb.mono HB0.out.size)
    clear bb
    obtain ⟨⟨⟨x0, x1', x2', x3⟩, x4, x5, x6, x7⟩, z0, z1, z2, z3⟩ := HBx.out wa HCa.out
    go_wp2_with fail
    refine Calls.mono (HM2.out _ HBa.out) ?_
    rintro e wb ⟨rfl, bb⟩
    have HCb : Hid (Below w0.heap.size w0 wb) := HCa.out.trans (bb.mono HCa.out.size)
    have HBb : Hid (Below w.heap.size w wb) := HBa.out.trans (bb.mono HBa.out.size)
    clear bb x0 x1' x2' x3 x4 x5 x6 x7 z0 z1 z2 z3
    obtain ⟨⟨⟨x0, x1', x2', x3⟩, x4, x5, x6, x7⟩, z0, z1, z2, z3⟩ := HBx.out wb HCb.out
    go_wp2_with fail
    refine Calls.mono (HH1.out _ HBb.out) ?_
    rintro e wc ⟨pa, ca, rfl, hr1, bb⟩
    have HCc : Hid (Below w0.heap.size w0 wc) := HCb.out.trans (bb.mono HCb.out.size)
    have HBc : Hid (Below w.heap.size w wc) := HBb.out.trans (bb.mono HBb.out.size)
    have HRa : Hid (Rls wc (.slice pa H1.length ca) H1) := hr1
    clear bb hr1 x0 x1' x2' x3 x4 x5 x6 x7 z0 z1 z2 z3
    obtain ⟨⟨⟨x0, x1', x2', x3⟩, x4, x5, x6, x7⟩, z0, z1, z2, z3⟩ := HBx.out wc HCc.out
    go_wp2_with fail
    refine Calls.mono (HH2.out _ HBc.out) ?_
    rintro e wd ⟨pb, cb, rfl, hr2, bb⟩
    have HCd : Hid (Below w0.heap.size w0 wd) := HCc.out.trans (bb.mono HCc.out.size)
    have HBd : Hid (Below w.heap.size w wd) := HBc.out.trans (bb.mono HBc.out.size)
    have HRb : Hid (Rls wd (.slice pb H2.length cb) H2) := hr2
    have HRc : Hid (Rls wd (.slice pa H1.length ca) H1) := HR1.out _ _ _ _ HRa.out bb
    clear bb hr2 x0 x1' x2' x3 x4 x5 x6 x7 z0 z1 z2 z3
    go_wp2_with fail
    refine Calls.mono (HN.out _) ?_
    rintro e we ⟨rfl, bb⟩
    have HCe : Hid (Below w0.heap.size w0 we) := HCd.out.trans (bb.mono HCd.out.size)
    have HBe : Hid (Below w.heap.size w we) := HBd.out.trans (bb.mono HBd.out.size)
    have HRd : Hid (Rls we (.slice pb H2.length cb) H2) := HR2.out _ _ _ _ HRb.out bb
    have HRe : Hid (Rls we (.slice pa H1.length ca) H1) := HR1.out _ _ _ _ HRc.out bb
    clear bb
    obtain ⟨⟨⟨x0, x1', x2', x3⟩, x4, x5, x6, x7⟩, z0, z1, z2, z3⟩ := HBx.out we HCe.out
    go_wp2_with fail
    go_ret
    exact ⟨rfl, HBe.out⟩
end Go.Proofs.Ytnjjlnhchfoigaa
