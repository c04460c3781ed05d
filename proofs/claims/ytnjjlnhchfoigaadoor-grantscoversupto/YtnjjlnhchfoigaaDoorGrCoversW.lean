/- The law GrantsCovers over this translation. -/
import Derived.Test.YtnjjlnhchfoigaaDoorGrBey
import Derived.Test.YtnjjlnhchfoigaaDoorGrNone
import Derived.Test.YtnjjlnhchfoigaaDoorGrBulkC
namespace Go.Proofs.YtnjjlnhchfoigaaDoor
open Go.RowKit Go.Maps
set_option linter.unusedVariables false
set_option linter.unusedSimpArgs false
theorem eq_ask (w : World) : Sem.run Tryd.prog (binOp .eql 33 (.agg #[.string ⟨#[]⟩, .string ⟨#[]⟩, .string ⟨#[]⟩, .string ⟨#[]⟩]) (.agg #[.string ⟨#[]⟩, .string ⟨#[]⟩, .string ⟨#[]⟩, .string ⟨#[]⟩])) w = .ok (.bool true) w := by kernel_rfl
theorem rls_one {w : World} {a b c : Value} {r : Rl} {n : Nat} (hn : w.heap.size = n) (ha : Strs w a r.1) (hb : Strs w b r.2.1) (hc : Strs w c r.2.2) : Rls (w.alloc (.cells #[a, b, c] 31)) (.slice (some ⟨n, 0, none⟩) 1 1) [r] := by
  subst hn
  have hb0 : Below w.heap.size w (w.alloc (.cells #[a, b, c] 31)) := (Below.refl _ _).alloc (Nat.le_refl _) _
  have hx := bx3_new w a b c 31
  refine Or.inr ⟨w.heap.size, 0, 1, rfl, Nat.le_refl _, by unfold maxLen; omega, by simp, fun i x hi => ?_⟩
  match i, hi with
  | 0, hi =>
    simp only [List.getElem?_cons_zero, Option.some.injEq] at hi
    subst hi
    exact ⟨a, b, c, hx.c0, hx.c1, hx.c2, ha.below hb0, hb.below hb0, hc.below hb0⟩
  | i + 1, hi => simp at hi
theorem allB_one (r : Rl) (a : Ak) : allB [r] a = alB r a := by simp [allB]
theorem gapW_some {held : List Rl} {r : Rl} {t : W3} (h : gapW held r = some t) {x0 x1 x2 : Bs} (f0 : IsFree held 0 x0) (f1 : IsFree held 1 x1) (f2 : IsFree held 2 x2) (sp : Bs) :
    alB r (tellW 0 x0 t.1, tellW 1 x1 t.2.1, sp, tellW 2 x2 t.2.2) = true ∧ allB held (tellW 0 x0 t.1, tellW 1 x1 t.2.1, sp, tellW 2 x2 t.2.2) = false := by
  unfold gapW at h
  obtain ⟨⟨q0, q1, q2, q3⟩, hq, rfl⟩ := Option.map_eq_some_iff.1 h
  exact gap_beyond hq f0.fresh.1 f1.fresh.1 f2.fresh.1 f2.fresh.2 sp
theorem gapW_none {held : List Rl} {r : Rl} (h : gapW held r = none) : gapP held r = none := by
  unfold gapW at h
  exact Option.map_eq_none_iff.1 h
theorem gapW_big {held : List Rl} {r : Rl} (hr : ruleT r ≤ 1048576) : ∀ t, gapW held r = some t → ∀ s ∈ [t.1, t.2.1, t.2.2], s.length ≤ 281474976710656 := fun t ht s hs => by
  unfold gapW at ht
  obtain ⟨⟨q0, q1, q2, q3⟩, hq, rfl⟩ := Option.map_eq_some_iff.1 ht
  obtain ⟨m0, m1, m2, _⟩ := gap_some hq
  have hw : ∀ (side : Nat) (x : Bs), x ∈ wordsP r side → x.length ≤ 1048576 := fun side x hx => by
    unfold ruleT at hr
    unfold wordsP at hx
    split at hx
    · have := textN_mem (once_mem.1 hx); omega
    · split at hx
      · have := textN_mem (once_mem.1 hx); omega
      · split at hx
        · rw [List.mem_singleton] at hx
          subst hx
          exact Nat.zero_le _
        · have := textN_mem (once_mem.1 (List.mem_filter.1 hx).1); omega
  simp only [List.mem_cons, List.not_mem_nil, or_false] at hs
  rcases hs with rfl | rfl | rfl
  · have := hw 0 _ m0; omega
  · have := hw 1 _ m1; omega
  · have := hw 2 _ m2; omega
set_option maxRecDepth 100000 in
set_option maxHeartbeats 16000000 in
theorem covers_walk (v a b c : Value) (held : List Rl) (r : Rl) (ak : Ak) (w : World) (hv : Rls w v held) (ha : Strs w a r.1) (hb : Strs w b r.2.1) (hc : Strs w c r.2.2) (hr : SmR r) (hrT : ruleT r ≤ 1048576) (hl : held.length ≤ 1048576) (hsm : ∀ r ∈ held, SmR r) (hT : TabW w) :
    Calls Tryd.prog 4 #[v, .agg #[a, b, c], askV ak] w fun e w' => e = .returned (.bool true) ∧ Below w.heap.size w w' := by
  obtain ⟨x0, hx0⟩ := free_exists held 0
  obtain ⟨x1, hx1⟩ := free_exists held 1
  obtain ⟨x2, hx2⟩ := free_exists held 2
  obtain ⟨k0, k1, k2, k3⟩ := ak
  obtain ⟨pa, ca, rfl, hna⟩ := ha.form
  obtain ⟨pb, cb, rfl, hnb⟩ := hb.form
  obtain ⟨pc, cc, rfl, hnc⟩ := hc.form
  obtain ⟨pv, cv, rfl, hnv⟩ := hv.form
  have HCo : Hid (∀ w1, Below w.heap.size w w1 → Calls Tryd.prog 7 #[.slice pv held.length cv, .agg #[.slice pa r.1.length ca, .slice pb r.2.1.length cb, .slice pc r.2.2.length cc]] w1 fun e w' => e = .returned (.bool (coversP held r)) ∧ Below w1.heap.size w1 w') := fun w1 h =>
    covers_any _ _ _ _ held r w1 (Sq.below rlAt_stays hv h) (ha.below h) (hb.below h) (hc.below h) hr hl hsm (hT.below h)
  have HBe : Hid (∀ w1, Below w.heap.size w w1 → Calls Tryd.prog 5 #[.slice pv held.length cv, .agg #[.slice pa r.1.length ca, .slice pb r.2.1.length cb, .slice pc r.2.2.length cc]] w1 (BeyQ held r x0 x1 x2 w1)) := fun w1 h =>
    beyond_any _ _ _ _ held r x0 x1 x2 w1 (Sq.below rlAt_stays hv h) (ha.below h) (hb.below h) (hc.below h) hr hl hsm (hT.below h) (gapW_big hrT) hx0 hx1 hx2
  have HNo : Hid (∀ w, Calls Tryd.prog 10 #[] w fun e w' => e = .returned (.bool true) ∧ Below w.heap.size w w') := none_any
  have HA1 : Hid (∀ (ak : Ak) w1, Below w.heap.size w w1 → Calls Tryd.prog 11 #[.slice pv held.length cv, askV ak] w1 fun e w' => e = .returned (.bool (allB held ak)) ∧ Below w1.heap.size w1 w') := fun ak w1 h => allows_any _ held ak w1 (Sq.below rlAt_stays hv h)
  have HA2 : Hid (∀ (ak : Ak) w1, Below w.heap.size w w1 → Calls Tryd.prog 11 #[.slice (some ⟨w1.heap.size, 0, none⟩) 1 1, askV ak] (w1.alloc (.cells #[.slice pa r.1.length ca, .slice pb r.2.1.length cb, .slice pc r.2.2.length cc] 31)) fun e w' => e = .returned (.bool (alB r ak)) ∧ Below w1.heap.size w1 w') := fun ak w1 h => by
    have h1 := allows_any (.slice (some ⟨w1.heap.size, 0, none⟩) 1 1) [r] ak (w1.alloc (.cells #[.slice pa r.1.length ca, .slice pb r.2.1.length cb, .slice pc r.2.2.length cc] 31)) (rls_one rfl (ha.below h) (hb.below h) (hc.below h))
    rw [allB_one] at h1
    refine h1.mono ?_
    rintro e w' ⟨he, hb1⟩
    exact ⟨he, ((Below.refl _ _).alloc (Nat.le_refl _) _).trans (hb1.mono (by simp))⟩
  obtain ⟨w0, hw0⟩ : ∃ w0, w0 = (w.alloc (.cells #[.slice pa r.1.length ca, .slice pb r.2.1.length cb, .slice pc r.2.2.length cc] 31)).alloc (.cells #[.string (Ba k0), .string (Ba k1), .string (Ba k2), .string (Ba k3)] 33) := ⟨_, rfl⟩
  have hs1 : (w.alloc (.cells #[.slice pa r.1.length ca, .slice pb r.2.1.length cb, .slice pc r.2.2.length cc] 31)).heap.size = w.heap.size + 1 := by simp
  have hB0 : Below w.heap.size w w0 := by rw [hw0]; exact ((Below.refl _ _).alloc (Nat.le_refl _) _).alloc (by simp) _
  have hxr : Bx3 w0 w.heap.size (.slice pa r.1.length ca) (.slice pb r.2.1.length cb) (.slice pc r.2.2.length cc) 31 := by
    rw [hw0]
    exact (bx3_new _ _ _ _ _).below ((Below.refl _ _).alloc (Nat.le_refl _) _)
  have hxa : Bx4 w0 (w.heap.size + 1) (.string (Ba k0)) (.string (Ba k1)) (.string (Ba k2)) (.string (Ba k3)) 33 := by
    rw [hw0, ← hs1]
    exact bx4_new _ _ _ _ _ _
  have XR : Hid (∀ w1, Below w0.heap.size w0 w1 → w1.cell? ⟨w.heap.size, 0, none⟩ = some (.slice pa r.1.length ca) ∧ w1.cell? ⟨w.heap.size, 1, none⟩ = some (.slice pb r.2.1.length cb) ∧ w1.cell? ⟨w.heap.size, 2, none⟩ = some (.slice pc r.2.2.length cc) ∧
      w1.cell? ⟨w.heap.size + 1, 0, none⟩ = some (.string (Ba k0)) ∧ w1.cell? ⟨w.heap.size + 1, 1, none⟩ = some (.string (Ba k1)) ∧ w1.cell? ⟨w.heap.size + 1, 2, none⟩ = some (.string (Ba k2)) ∧ w1.cell? ⟨w.heap.size + 1, 3, none⟩ = some (.string (Ba k3))) := fun w1 h =>
    ⟨(hxr.below h).c0, (hxr.below h).c1, (hxr.below h).c2, (hxa.below h).c0, (hxa.below h).c1, (hxa.below h).c2, (hxa.below h).c3⟩
  have HB0 : Hid (Below w.heap.size w w0) := hB0
  have HW0 : Hid (w0 = (w.alloc (.cells #[.slice pa r.1.length ca, .slice pb r.2.1.length cb, .slice pc r.2.2.length cc] 31)).alloc (.cells #[.string (Ba k0), .string (Ba k1), .string (Ba k2), .string (Ba k3)] 33)) := hw0
  have HBt : Hid (∀ {u v : World}, Below w0.heap.size w0 u → Below u.heap.size u v → Below w0.heap.size w0 v) := fun h g => h.trans (g.mono h.size)
  have HBw : Hid (∀ {u : World}, Below w0.heap.size w0 u → Below w.heap.size w u) := fun h => hB0.trans (h.mono hB0.size)
  have qe := eq_ask
  dsimp only [askV]
  cases hg : gapW held r with
  | none =>
    have HCt : Hid (coversP held r = true) := by
      show _ = _
      unfold coversP
      rw [hg]
      rfl
    have HBn : Hid (∀ w1, Below w.heap.size w w1 → Calls Tryd.prog 5 #[.slice pv held.length cv, .agg #[.slice pa r.1.length ca, .slice pb r.2.1.length cb, .slice pc r.2.2.length cc]] w1 fun e w' => e = .returned (.tuple #[.agg #[.string ⟨#[]⟩, .string ⟨#[]⟩, .string ⟨#[]⟩, .string ⟨#[]⟩], .bool false]) ∧ Below w1.heap.size w1 w') := fun w1 h => by
      have h1 := HBe.out w1 h
      unfold BeyQ at h1
      rw [hg] at h1
      exact h1
    have HCn : Hid (∀ w1, Below w.heap.size w w1 → Calls Tryd.prog 7 #[.slice pv held.length cv, .agg #[.slice pa r.1.length ca, .slice pb r.2.1.length cb, .slice pc r.2.2.length cc]] w1 fun e w' => e = .returned (.bool true) ∧ Below w1.heap.size w1 w') := fun w1 h => by
      have h1 := HCo.out w1 h
      rw [HCt.out] at h1
      exact h1
    have hcov : alB r (k0, k1, k2, k3) = true → allB held (k0, k1, k2, k3) = true := fun h => gap_covers (gapW_none hg) h
    have HH : Hid (∀ w1, Below w.heap.size w w1 → Calls Tryd.prog 11 #[.slice pv held.length cv, .agg #[.string (Ba k0), .string (Ba k1), .string (Ba k2), .string (Ba k3)]] w1 fun e w' => e = .returned (.bool (allB held (k0, k1, k2, k3))) ∧ Below w1.heap.size w1 w') := fun w1 h => HA1.out (k0, k1, k2, k3) w1 h
    have HR : Hid (∀ w1, Below w.heap.size w w1 → Calls Tryd.prog 11 #[.slice (some ⟨w1.heap.size, 0, none⟩) 1 1, .agg #[.string (Ba k0), .string (Ba k1), .string (Ba k2), .string (Ba k3)]] (w1.alloc (.cells #[.slice pa r.1.length ca, .slice pb r.2.1.length cb, .slice pc r.2.2.length cc] 31)) fun e w' => e = .returned (.bool (alB r (k0, k1, k2, k3))) ∧ Below w1.heap.size w1 w') := fun w1 h => HA2.out (k0, k1, k2, k3) w1 h
    clear hg hv ha hb hc hr hrT hsm hT hx0 hx1 hx2 hw0 hs1 hB0 hxr hxa HCo HBe HCt HA1 HA2
    generalize allB held (k0, k1, k2, k3) = ab at *
    generalize alB r (k0, k1, k2, k3) = al at *
    generalize r.1.length = n1 at *
    generalize r.2.1.length = n2 at *
    generalize r.2.2.length = n3 at *
    generalize Ba k0 = z0 at *
    generalize Ba k1 = z1 at *
    generalize Ba k2 = z2 at *
    generalize Ba k3 = z3 at *
    cases al with
    | true =>
      have hab : ab = true := hcov rfl
      subst hab
      clear hcov
      go_enter Tryd.func4, Tryd.ntmps4
      go_wp2_with fail
      rw [← HW0.out]
      refine Calls.mono (HCn.out _ HB0.out) ?_
      rintro e w1 ⟨rfl, hb1⟩
      obtain ⟨r0, r1, r2, r3, r4, r5, r6⟩ := XR.out w1 hb1
      have HB1 : Hid (Below w0.heap.size w0 w1) := hb1
      clear hb1
      go_wp2_with fail
      refine Calls.mono (HBn.out _ (HBw.out HB1.out)) ?_
      rintro e w2 ⟨rfl, hb2⟩
      have hb3 := (HBt.out HB1.out hb2).alloc (HBt.out HB1.out hb2).size (.cells #[.string ⟨#[]⟩, .string ⟨#[]⟩, .string ⟨#[]⟩, .string ⟨#[]⟩] 33)
      have HB3 : Hid (Below w0.heap.size w0 (w2.alloc (.cells #[.string ⟨#[]⟩, .string ⟨#[]⟩, .string ⟨#[]⟩, .string ⟨#[]⟩] 33))) := hb3
      have X3 : Hid (Bx4 (w2.alloc (.cells #[.string ⟨#[]⟩, .string ⟨#[]⟩, .string ⟨#[]⟩, .string ⟨#[]⟩] 33)) w2.heap.size (.string ⟨#[]⟩) (.string ⟨#[]⟩) (.string ⟨#[]⟩) (.string ⟨#[]⟩) 33) := bx4_new _ _ _ _ _ _
      clear hb2 hb3 r0 r1 r2 r3 r4 r5 r6
      go_wp2_with fail
      refine Calls.mono (HNo.out _) ?_
      rintro e w4 ⟨rfl, hb4⟩
      have HB4 : Hid (Below w0.heap.size w0 w4) := HBt.out HB3.out hb4
      obtain ⟨r0, r1, r2, r3, r4, r5, r6⟩ := XR.out w4 HB4.out
      have X4 : Hid (Bx4 w4 w2.heap.size (.string ⟨#[]⟩) (.string ⟨#[]⟩) (.string ⟨#[]⟩) (.string ⟨#[]⟩) 33) := X3.out.below hb4
      have s0 := X4.out.c0
      have s1 := X4.out.c1
      have s2 := X4.out.c2
      have s3 := X4.out.c3
      have hb5 := HB4.out.alloc HB4.out.size (.cells #[.slice pa n1 ca, .slice pb n2 cb, .slice pc n3 cc] 31)
      obtain ⟨_, _, _, q3, q4, q5, q6⟩ := XR.out _ hb5
      clear hb4 hb5
      go_wp2_with fail
      refine Calls.mono (HR.out _ (HBw.out HB4.out)) ?_
      rintro e w5 ⟨rfl, hb5⟩
      have HB5 : Hid (Below w0.heap.size w0 w5) := HBt.out HB4.out hb5
      clear hb5 q3 q4 q5 q6 r0 r1 r2 r3 r4 r5 r6 s0 s1 s2 s3
      obtain ⟨r0, r1, r2, r3, r4, r5, r6⟩ := XR.out w5 HB5.out
      go_wp2_with fail
      refine Calls.mono (HH.out _ (HBw.out HB5.out)) ?_
      rintro e w6 ⟨rfl, hb6⟩
      have HB6 : Hid (Below w0.heap.size w0 w6) := HBt.out HB5.out hb6
      clear hb6
      go_wp2_with fail
      go_ret
      exact ⟨rfl, HBw.out HB6.out⟩
    | false =>
      clear hcov
      go_enter Tryd.func4, Tryd.ntmps4
      go_wp2_with fail
      rw [← HW0.out]
      refine Calls.mono (HCn.out _ HB0.out) ?_
      rintro e w1 ⟨rfl, hb1⟩
      obtain ⟨r0, r1, r2, r3, r4, r5, r6⟩ := XR.out w1 hb1
      have HB1 : Hid (Below w0.heap.size w0 w1) := hb1
      clear hb1
      go_wp2_with fail
      refine Calls.mono (HBn.out _ (HBw.out HB1.out)) ?_
      rintro e w2 ⟨rfl, hb2⟩
      have hb3 := (HBt.out HB1.out hb2).alloc (HBt.out HB1.out hb2).size (.cells #[.string ⟨#[]⟩, .string ⟨#[]⟩, .string ⟨#[]⟩, .string ⟨#[]⟩] 33)
      have HB3 : Hid (Below w0.heap.size w0 (w2.alloc (.cells #[.string ⟨#[]⟩, .string ⟨#[]⟩, .string ⟨#[]⟩, .string ⟨#[]⟩] 33))) := hb3
      have X3 : Hid (Bx4 (w2.alloc (.cells #[.string ⟨#[]⟩, .string ⟨#[]⟩, .string ⟨#[]⟩, .string ⟨#[]⟩] 33)) w2.heap.size (.string ⟨#[]⟩) (.string ⟨#[]⟩) (.string ⟨#[]⟩) (.string ⟨#[]⟩) 33) := bx4_new _ _ _ _ _ _
      clear hb2 hb3 r0 r1 r2 r3 r4 r5 r6
      go_wp2_with fail
      refine Calls.mono (HNo.out _) ?_
      rintro e w4 ⟨rfl, hb4⟩
      have HB4 : Hid (Below w0.heap.size w0 w4) := HBt.out HB3.out hb4
      obtain ⟨r0, r1, r2, r3, r4, r5, r6⟩ := XR.out w4 HB4.out
      have X4 : Hid (Bx4 w4 w2.heap.size (.string ⟨#[]⟩) (.string ⟨#[]⟩) (.string ⟨#[]⟩) (.string ⟨#[]⟩) 33) := X3.out.below hb4
      have s0 := X4.out.c0
      have s1 := X4.out.c1
      have s2 := X4.out.c2
      have s3 := X4.out.c3
      have hb5 := HB4.out.alloc HB4.out.size (.cells #[.slice pa n1 ca, .slice pb n2 cb, .slice pc n3 cc] 31)
      obtain ⟨_, _, _, q3, q4, q5, q6⟩ := XR.out _ hb5
      clear hb4 hb5
      go_wp2_with fail
      refine Calls.mono (HR.out _ (HBw.out HB4.out)) ?_
      rintro e w5 ⟨rfl, hb5⟩
      have HB5 : Hid (Below w0.heap.size w0 w5) := HBt.out HB4.out hb5
      clear hb5 q3 q4 q5 q6 r0 r1 r2 r3 r4 r5 r6 s0 s1 s2 s3
      obtain ⟨r0, r1, r2, r3, r4, r5, r6⟩ := XR.out w5 HB5.out
      go_wp2_with fail
      go_ret
      exact ⟨rfl, HBw.out HB5.out⟩
  | some t =>
    obtain ⟨t0, t1, t2⟩ := t
    obtain ⟨hy1, hy2⟩ := gapW_some hg hx0 hx1 hx2 []
    have HCn : Hid (∀ w1, Below w.heap.size w w1 → Calls Tryd.prog 7 #[.slice pv held.length cv, .agg #[.slice pa r.1.length ca, .slice pb r.2.1.length cb, .slice pc r.2.2.length cc]] w1 fun e w' => e = .returned (.bool false) ∧ Below w1.heap.size w1 w') := fun w1 h => by
      have h1 := HCo.out w1 h
      unfold coversP at h1
      rw [hg] at h1
      exact h1
    have HBn : Hid (∀ w1, Below w.heap.size w w1 → Calls Tryd.prog 5 #[.slice pv held.length cv, .agg #[.slice pa r.1.length ca, .slice pb r.2.1.length cb, .slice pc r.2.2.length cc]] w1 fun e w' => e = .returned (.tuple #[.agg #[.string (Ba (tellW 0 x0 t0)), .string (Ba (tellW 1 x1 t1)), .string ⟨#[]⟩, .string (Ba (tellW 2 x2 t2))], .bool true]) ∧ Below w1.heap.size w1 w') := fun w1 h => by
      have h1 := HBe.out w1 h
      unfold BeyQ at h1
      rw [hg] at h1
      exact h1
    have HH : Hid (∀ w1, Below w.heap.size w w1 → Calls Tryd.prog 11 #[.slice pv held.length cv, .agg #[.string (Ba (tellW 0 x0 t0)), .string (Ba (tellW 1 x1 t1)), .string ⟨#[]⟩, .string (Ba (tellW 2 x2 t2))]] w1 fun e w' => e = .returned (.bool false) ∧ Below w1.heap.size w1 w') := fun w1 h => by
      have h1 := HA1.out (tellW 0 x0 t0, tellW 1 x1 t1, [], tellW 2 x2 t2) w1 h
      rw [hy2] at h1
      exact h1
    have HR : Hid (∀ w1, Below w.heap.size w w1 → Calls Tryd.prog 11 #[.slice (some ⟨w1.heap.size, 0, none⟩) 1 1, .agg #[.string (Ba (tellW 0 x0 t0)), .string (Ba (tellW 1 x1 t1)), .string ⟨#[]⟩, .string (Ba (tellW 2 x2 t2))]] (w1.alloc (.cells #[.slice pa r.1.length ca, .slice pb r.2.1.length cb, .slice pc r.2.2.length cc] 31)) fun e w' => e = .returned (.bool true) ∧ Below w1.heap.size w1 w') := fun w1 h => by
      have h1 := HA2.out (tellW 0 x0 t0, tellW 1 x1 t1, [], tellW 2 x2 t2) w1 h
      rw [hy1] at h1
      exact h1
    clear hg hv ha hb hc hr hrT hsm hT hx0 hx1 hx2 hw0 hs1 hB0 hxr hxa HCo HBe HA1 HA2 hy1 hy2
    generalize r.1.length = n1 at *
    generalize r.2.1.length = n2 at *
    generalize r.2.2.length = n3 at *
    generalize Ba k0 = z0 at *
    generalize Ba k1 = z1 at *
    generalize Ba k2 = z2 at *
    generalize Ba k3 = z3 at *
    generalize Ba (tellW 0 x0 t0) = y0 at *
    generalize Ba (tellW 1 x1 t1) = y1 at *
    generalize Ba (tellW 2 x2 t2) = y2 at *
    go_enter Tryd.func4, Tryd.ntmps4
    go_wp2_with fail
    rw [← HW0.out]
    refine Calls.mono (HCn.out _ HB0.out) ?_
    rintro e w1 ⟨rfl, hb1⟩
    obtain ⟨r0, r1, r2, r3, r4, r5, r6⟩ := XR.out w1 hb1
    have HB1 : Hid (Below w0.heap.size w0 w1) := hb1
    clear hb1
    go_wp2_with fail
    refine Calls.mono (HBn.out _ (HBw.out HB1.out)) ?_
    rintro e w2 ⟨rfl, hb2⟩
    have hb3 := (HBt.out HB1.out hb2).alloc (HBt.out HB1.out hb2).size (.cells #[.string y0, .string y1, .string ⟨#[]⟩, .string y2] 33)
    have HB3 : Hid (Below w0.heap.size w0 (w2.alloc (.cells #[.string y0, .string y1, .string ⟨#[]⟩, .string y2] 33))) := hb3
    have X3 : Hid (Bx4 (w2.alloc (.cells #[.string y0, .string y1, .string ⟨#[]⟩, .string y2] 33)) w2.heap.size (.string y0) (.string y1) (.string ⟨#[]⟩) (.string y2) 33) := bx4_new _ _ _ _ _ _
    clear hb2 hb3 r0 r1 r2 r3 r4 r5 r6
    go_wp2_with fail
    refine Calls.mono (HNo.out _) ?_
    rintro e w4 ⟨rfl, hb4⟩
    have HB4 : Hid (Below w0.heap.size w0 w4) := HBt.out HB3.out hb4
    obtain ⟨r0, r1, r2, r3, r4, r5, r6⟩ := XR.out w4 HB4.out
    have X4 : Hid (Bx4 w4 w2.heap.size (.string y0) (.string y1) (.string ⟨#[]⟩) (.string y2) 33) := X3.out.below hb4
    have X5 := X4.out.below (w' := w4.alloc (.cells #[.slice pa n1 ca, .slice pb n2 cb, .slice pc n3 cc] 31)) ((Below.refl _ _).alloc (Nat.le_refl _) _)
    have s0 := X5.c0
    have s1 := X5.c1
    have s2 := X5.c2
    have s3 := X5.c3
    clear hb4 X5
    go_wp2_with fail
    refine Calls.mono (HR.out _ (HBw.out HB4.out)) ?_
    rintro e w5 ⟨rfl, hb5⟩
    have HB5 : Hid (Below w0.heap.size w0 w5) := HBt.out HB4.out hb5
    have X6 : Hid (Bx4 w5 w2.heap.size (.string y0) (.string y1) (.string ⟨#[]⟩) (.string y2) 33) := X4.out.below hb5
    clear hb5 r0 r1 r2 r3 r4 r5 r6 s0 s1 s2 s3
    have s0 := X6.out.c0
    have s1 := X6.out.c1
    have s2 := X6.out.c2
    have s3 := X6.out.c3
    go_wp2_with fail
    refine Calls.mono (HH.out _ (HBw.out HB5.out)) ?_
    rintro e w6 ⟨rfl, hb6⟩
    have HB6 : Hid (Below w0.heap.size w0 w6) := HBt.out HB5.out hb6
    clear hb6
    go_wp2_with fail
    go_ret
    exact ⟨rfl, HBw.out HB6.out⟩
end Go.Proofs.YtnjjlnhchfoigaaDoor
