/- Contracts over this translation of the document's GrantsHeld, GrantsMay. -/
import Derived.Test.YtnjjlnhchfoigaaGrHeldR
import Derived.Test.YtnjjlnhchfoigaaGrAllowR
import Derived.Test.YtnjjlnhchfoigaaGrRfUser
import Derived.Test.YtnjjlnhchfoigaaGrFlC
import Derived.Test.YtnjjlnhchfoigaaGrFlA
import Derived.Test.YtnjjlnhchfoigaaGrHeldT
import Derived.Test.YtnjjlnhchfoigaaGrMay
import Derived.Test.YtnjjlnhchfoigaaRfOrd
namespace Go.Proofs.Ytnjjlnhchfoigaa
open Go.RowKit
set_option linter.unusedVariables false
set_option linter.unusedSimpArgs false
set_option maxRecDepth 100000 in
set_option maxHeartbeats 8000000 in
theorem heldRT_any (u v x : Value) (rs : List Ro) (bs : List Bi) (n : Bs) (gs : List Bs) (sp : Bs) (w : World) (hg : Grs w u v rs bs) (hx : Strs w x gs) (hn : n.length ≤ maxLen) (hfg : FitS gs) (hsp : sp.length ≤ maxLen) (hN : grN rs bs ≤ 10000000000000) :
    Calls Try.prog 12 #[.agg #[u, v], .agg #[.string (Ba n), x], .string (Ba sp)] w fun e w' => ∃ y, e = .returned (.tuple #[y, .int .i64 (whyI rs bs n gs sp)]) ∧ Rls w' y (heldE rs bs n gs sp) ∧ Below w.heap.size w w' := by
  obtain ⟨p, c, rfl, hn1⟩ := Sq.form hg.ros
  obtain ⟨p2, c2, rfl, hn2⟩ := Sq.form hg.bis
  obtain ⟨px, cx, rfl, hnx⟩ := hx.form
  have HG : Hid (∀ w1, Below w.heap.size w w1 → Calls Try.prog 8 #[.agg #[.slice p rs.length c, .slice p2 bs.length c2]] w1 fun e w' => e = .returned (.int .i64 (grI rs bs)) ∧ Below w1.heap.size w1 w') := fun w1 hb => grantsR_any _ _ rs bs w1 (hg.below hb) hN
  have HU : Hid (∀ w1, Below w.heap.size w w1 → Calls Try.prog 36 #[.agg #[.string (Ba n), .slice px gs.length cx]] w1 fun e w' => e = .returned (.int .i64 (userI n gs)) ∧ Below w1.heap.size w1 w') := fun w1 hb => rfuser_any n _ gs w1 hn (hx.below hb) hfg
  have HH : Hid (grI rs bs = 0 → ∀ w1, Below w.heap.size w w1 → Calls Try.prog 37 #[.agg #[.slice p rs.length c, .slice p2 bs.length c2], .agg #[.string (Ba n), .slice px gs.length cx], .string (Ba sp)] w1 fun e w' => ∃ y, e = .returned y ∧ Rls w' y (heldP rs bs n gs sp) ∧ Below w1.heap.size w1 w') := fun h0 w1 hb => by
    refine (heldR_any _ _ _ rs bs n gs sp w1 (hg.below hb) (hx.below hb) h0).mono ?_
    rintro e w2 ⟨y, L, rfl, hm, ho, hs, _, hb2⟩
    exact ⟨y, rfl, by rw [← hm]; exact rls_of_owns ho (hs.below hb2), hb2⟩
  have HWy : Hid (orE (orE (grI rs bs) (userI n gs)) (ifI sp) = whyI rs bs n gs sp) := rfl
  have HOff : Hid (whyI rs bs n gs sp ≠ 0 → heldE rs bs n gs sp = []) := heldE_none
  have HOn : Hid (whyI rs bs n gs sp = 0 → grI rs bs = 0 ∧ heldE rs bs n gs sp = heldP rs bs n gs sp) := fun h => ⟨why_gr h, heldE_some h⟩
  have HSl : Hid (sp.length ≤ maxLen) := hsp
  generalize heldE rs bs n gs sp = R at *
  generalize heldP rs bs n gs sp = H at *
  generalize whyI rs bs n gs sp = wy at *
  obtain ⟨wb0, hwb⟩ : ∃ x, x = (w.alloc (.cells #[.slice p rs.length c, .slice p2 bs.length c2] 25)).alloc (.cells #[.string (Ba n), .slice px gs.length cx] 34) := ⟨_, rfl⟩
  obtain ⟨w0, hw0⟩ : ∃ x, x = wb0.alloc (.cells #[.slice none 0 0] 58) := ⟨_, rfl⟩
  have hsb : wb0.heap.size = w.heap.size + 2 := by rw [hwb]; simp
  have hBb : Below w.heap.size w wb0 := by rw [hwb]; exact ((Below.refl _ _).alloc (Nat.le_refl _) _).alloc (by simp) _
  have hB0 : Below w.heap.size w w0 := by rw [hw0]; exact hBb.alloc hBb.size _
  have hfl0 : FlAt w.heap.size w0 (w.heap.size + 2) 0 0 (fun k => k = w.heap.size ∨ k = w.heap.size + 1) := by
    refine ⟨by omega, .slice none 0 0, [], ?_, World.ownsRow_nil _ _ _ _, (fun e => by cases e), Nat.le_refl _, rfl, (fun x hx => by simp at hx), fun k hk => ?_⟩
    · rw [hw0, ← hsb]; exact heap_alloc_new _ _
    · have hsz : w0.heap.size = wb0.heap.size + 1 := by rw [hw0]; simp
      exact ⟨by omega, by omega, fun e => by cases e⟩
  have HBg : Hid (∀ w1, Kp w.heap.size (fun k => k = w.heap.size ∨ k = w.heap.size + 1) w0 w1 → (w1.cell? ⟨w.heap.size, 0, none⟩ = some (.slice p rs.length c) ∧ w1.cell? ⟨w.heap.size, 1, none⟩ = some (.slice p2 bs.length c2) ∧ w1.cell? ⟨w.heap.size + 1, 0, none⟩ = some (.string (Ba n)) ∧ w1.cell? ⟨w.heap.size + 1, 1, none⟩ = some (.slice px gs.length cx))) := fun w1 h => by
    have hz : Below wb0.heap.size wb0 w0 := by rw [hw0]; exact (Below.refl _ _).alloc (Nat.le_refl _) _
    have hsz : w0.heap.size = wb0.heap.size + 1 := by rw [hw0]; simp
    have hk : ∀ k, (fun k => k = w.heap.size ∨ k = w.heap.size + 1) k → w1.heap[k]? = wb0.heap[k]? := fun k hk => (h.kept k hk (by omega)).trans (hz.block k (by omega))
    have hcc : ∀ k o, (fun k => k = w.heap.size ∨ k = w.heap.size + 1) k → w1.cell? ⟨k, o, none⟩ = wb0.cell? ⟨k, o, none⟩ := fun k o hk' => World.cell?_of_block (hk k hk')
    have hbase := bxs2 (hwb ▸ Below.refl wb0.heap.size wb0)
    rw [← hwb] at hbase
    refine ⟨?_, ?_, ?_, ?_⟩
    all_goals (rw [hcc _ _ (by simp)])
    · exact hbase.1
    · exact hbase.2.1
    · exact hbase.2.2.1
    · exact hbase.2.2.2
  have HB0 : Hid (Below w.heap.size w w0) := hB0
  have HF0 : Hid (FlAt w.heap.size w0 (w.heap.size + 2) 0 0 (fun k => k = w.heap.size ∨ k = w.heap.size + 1)) := hfl0
  have HWb : Hid (wb0 = (w.alloc (.cells #[.slice p rs.length c, .slice p2 bs.length c2] 25)).alloc (.cells #[.string (Ba n), .slice px gs.length cx] 34)) := hwb
  have HW0 : Hid (w0 = wb0.alloc (.cells #[.slice none 0 0] 58)) := hw0
  have HSa : Hid (∀ w1 e' m x, FlAt w.heap.size w1 (w.heap.size + 2) e' m (fun k => k = w.heap.size ∨ k = w.heap.size + 1) → m ≤ 10000000000000 → Calls Try.prog 26 #[.pointer (some ⟨w.heap.size + 2, 0, none⟩), .int .i64 x] w1 fun r w' => r = .returned (.tuple #[]) ∧ FlAt w.heap.size w' (w.heap.size + 2) (orE e' x) (m + 1) (fun k => k = w.heap.size ∨ k = w.heap.size + 1) ∧ Kp w.heap.size (fun k => k = w.heap.size ∨ k = w.heap.size + 1) w1 w') := fun w1 e' m x h hm => says_any _ _ e' x m _ w1 h hm
  have HSp : Hid (∀ w1 e' m s, s.length ≤ maxLen → FlAt w.heap.size w1 (w.heap.size + 2) e' m (fun k => k = w.heap.size ∨ k = w.heap.size + 1) → m ≤ 10000000000000 → Calls Try.prog 25 #[.pointer (some ⟨w.heap.size + 2, 0, none⟩), .string (Ba s)] w1 fun r w' => r = .returned (.tuple #[]) ∧ FlAt w.heap.size w' (w.heap.size + 2) (orE e' (ifI s)) (m + 1) (fun k => k = w.heap.size ∨ k = w.heap.size + 1) ∧ Kp w.heap.size (fun k => k = w.heap.size ∨ k = w.heap.size + 1) w1 w') := fun w1 e' m s hs h hm => space_any _ _ e' m _ s w1 h hm hs
  have HFi : Hid (∀ w1 e' m, FlAt w.heap.size w1 (w.heap.size + 2) e' m (fun k => k = w.heap.size ∨ k = w.heap.size + 1) → ∃ v, w1.cell? ⟨w.heap.size + 2, 0, none⟩ = some v ∧ Calls Try.prog 30 #[v] w1 fun r w' => r = .returned (.int .i64 e') ∧ w' = w1) := fun w1 e' m h => first_any _ _ e' m _ w1 h
  have HKb : Hid (∀ w1 w2, Below w.heap.size w w1 → Below w1.heap.size w1 w2 → Kp w.heap.size (fun k => k = w.heap.size ∨ k = w.heap.size + 1) w1 w2) := fun w1 w2 h1 h2 => Kp.of_below h2 h1.size
  clear hg hx hn hfg hN hwb hw0 hsb hBb hB0 hfl0 hsp
  generalize grI rs bs = q1 at *
  generalize userI n gs = q2 at *
  generalize rs.length = lr at *
  generalize bs.length = lb at *
  generalize gs.length = lg at *
  unfold maxLen at hn1 hn2 hnx
  by_cases hz : wy = 0
  · have bz : (wy != 0) = false := by simp [hz]
    obtain ⟨hq1, hon⟩ := HOn.out hz
    have HZ : Hid (wy = 0) := hz
    have HOn2 : Hid (_) := hon
    have HH2 : Hid (_) := HH.out hq1
    clear HOn HOff hz hq1 hon HH
    go_enter Try.func12, Try.ntmps12
    go_wp2_with fail
    rw [← HWb.out, ← HW0.out]
    refine Calls.mono (HG.out _ HB0.out) ?_
    rintro e wa ⟨rfl, bb⟩
    have HFa : Hid (FlAt w.heap.size wa (w.heap.size + 2) 0 0 (fun k => k = w.heap.size ∨ k = w.heap.size + 1)) := HF0.out.below bb
    have HKa : Hid (Kp w.heap.size (fun k => k = w.heap.size ∨ k = w.heap.size + 1) w0 wa) := HKb.out _ _ HB0.out bb
    clear bb
    obtain ⟨z0, z1, z2, z3⟩ := HBg.out wa HKa.out
    go_wp2_with fail
    refine Calls.mono (HSa.out _ _ _ _ HFa.out (by omega)) ?_
    rintro e wb ⟨rfl, h1, h2⟩
    have HFb : Hid (FlAt w.heap.size wb (w.heap.size + 2) (orE 0 q1) 1 (fun k => k = w.heap.size ∨ k = w.heap.size + 1)) := h1
    have HKc : Hid (Kp w.heap.size (fun k => k = w.heap.size ∨ k = w.heap.size + 1) w0 wb) := HKa.out.trans h2
    have HBc : Hid (Below w.heap.size w wb) := HB0.out.trans HKc.out.bel
    clear h1 h2 z0 z1 z2 z3
    obtain ⟨z0, z1, z2, z3⟩ := HBg.out wb HKc.out
    go_wp2_with fail
    refine Calls.mono (HU.out _ HBc.out) ?_
    rintro e wc ⟨rfl, bb⟩
    have HFc : Hid (FlAt w.heap.size wc (w.heap.size + 2) (orE 0 q1) 1 (fun k => k = w.heap.size ∨ k = w.heap.size + 1)) := HFb.out.below bb
    have HKd : Hid (Kp w.heap.size (fun k => k = w.heap.size ∨ k = w.heap.size + 1) w0 wc) := HKc.out.trans (HKb.out _ _ HBc.out bb)
    clear bb z0 z1 z2 z3
    obtain ⟨z0, z1, z2, z3⟩ := HBg.out wc HKd.out
    go_wp2_with fail
    refine Calls.mono (HSa.out _ _ _ _ HFc.out (by omega)) ?_
    rintro e wd ⟨rfl, h1, h2⟩
    have HFd : Hid (FlAt w.heap.size wd (w.heap.size + 2) (orE (orE 0 q1) q2) 2 (fun k => k = w.heap.size ∨ k = w.heap.size + 1)) := h1
    have HKe : Hid (Kp w.heap.size (fun k => k = w.heap.size ∨ k = w.heap.size + 1) w0 wd) := HKd.out.trans h2
    have HBe : Hid (Below w.heap.size w wd) := HB0.out.trans HKe.out.bel
    clear h1 h2 z0 z1 z2 z3
    obtain ⟨z0, z1, z2, z3⟩ := HBg.out wd HKe.out
    go_wp2_with fail
    have HKf : Hid (Kp w.heap.size (fun k => k = w.heap.size ∨ k = w.heap.size + 1) w0 wd) := HKe.out
    refine Calls.mono (HSp.out _ _ _ sp HSl.out HFd.out (by omega)) ?_
    rintro e wf ⟨rfl, h1, h2⟩
    have HFf : Hid (FlAt w.heap.size wf (w.heap.size + 2) wy 3 (fun k => k = w.heap.size ∨ k = w.heap.size + 1)) := by
      show FlAt _ _ _ _ _ _
      rw [← HWy.out]
      exact h1
    have HKg : Hid (Kp w.heap.size (fun k => k = w.heap.size ∨ k = w.heap.size + 1) w0 wf) := HKf.out.trans h2
    have HBg2 : Hid (Below w.heap.size w wf) := HB0.out.trans HKg.out.bel
    clear h1 h2 z0 z1 z2 z3
    obtain ⟨z0, z1, z2, z3⟩ := HBg.out wf HKg.out
    obtain ⟨vf, hvf, hcf⟩ := HFi.out wf _ _ HFf.out
    have HCf : Hid (_) := hcf
    clear hcf
    go_wp2_with fail
    refine Calls.mono HCf.out ?_
    rintro e wz ⟨rfl, hwz⟩
    obtain rfl : wf = wz := hwz.symm
    go_wp2_with fail
    refine Calls.mono (HH2.out _ HBg2.out) ?_
    rintro e wh ⟨y, rfl, hrl, bb⟩
    have HRl : Hid (Rls wh y H) := hrl
    have HBh : Hid (Below w.heap.size w wh) := HBg2.out.trans (bb.mono HBg2.out.size)
    clear hrl bb
    go_wp2_with fail
    exact bodyPost_ret (v := .tuple #[y, .int .i64 0]) (by simp [results, Try.results12, go_sem]) rfl ⟨y, by rw [HZ.out], by rw [HOn2.out]; exact HRl.out, HBh.out⟩
  · have bz : (wy != 0) = true := by simpa using hz
    have HOf : Hid (_) := HOff.out hz
    clear HOn HOff hz HH
    go_enter Try.func12, Try.ntmps12
    go_wp2_with fail
    rw [← HWb.out, ← HW0.out]
    refine Calls.mono (HG.out _ HB0.out) ?_
    rintro e wa ⟨rfl, bb⟩
    have HFa : Hid (FlAt w.heap.size wa (w.heap.size + 2) 0 0 (fun k => k = w.heap.size ∨ k = w.heap.size + 1)) := HF0.out.below bb
    have HKa : Hid (Kp w.heap.size (fun k => k = w.heap.size ∨ k = w.heap.size + 1) w0 wa) := HKb.out _ _ HB0.out bb
    clear bb
    obtain ⟨z0, z1, z2, z3⟩ := HBg.out wa HKa.out
    go_wp2_with fail
    refine Calls.mono (HSa.out _ _ _ _ HFa.out (by omega)) ?_
    rintro e wb ⟨rfl, h1, h2⟩
    have HFb : Hid (FlAt w.heap.size wb (w.heap.size + 2) (orE 0 q1) 1 (fun k => k = w.heap.size ∨ k = w.heap.size + 1)) := h1
    have HKc : Hid (Kp w.heap.size (fun k => k = w.heap.size ∨ k = w.heap.size + 1) w0 wb) := HKa.out.trans h2
    have HBc : Hid (Below w.heap.size w wb) := HB0.out.trans HKc.out.bel
    clear h1 h2 z0 z1 z2 z3
    obtain ⟨z0, z1, z2, z3⟩ := HBg.out wb HKc.out
    go_wp2_with fail
    refine Calls.mono (HU.out _ HBc.out) ?_
    rintro e wc ⟨rfl, bb⟩
    have HFc : Hid (FlAt w.heap.size wc (w.heap.size + 2) (orE 0 q1) 1 (fun k => k = w.heap.size ∨ k = w.heap.size + 1)) := HFb.out.below bb
    have HKd : Hid (Kp w.heap.size (fun k => k = w.heap.size ∨ k = w.heap.size + 1) w0 wc) := HKc.out.trans (HKb.out _ _ HBc.out bb)
    clear bb z0 z1 z2 z3
    obtain ⟨z0, z1, z2, z3⟩ := HBg.out wc HKd.out
    go_wp2_with fail
    refine Calls.mono (HSa.out _ _ _ _ HFc.out (by omega)) ?_
    rintro e wd ⟨rfl, h1, h2⟩
    have HFd : Hid (FlAt w.heap.size wd (w.heap.size + 2) (orE (orE 0 q1) q2) 2 (fun k => k = w.heap.size ∨ k = w.heap.size + 1)) := h1
    have HKe : Hid (Kp w.heap.size (fun k => k = w.heap.size ∨ k = w.heap.size + 1) w0 wd) := HKd.out.trans h2
    have HBe : Hid (Below w.heap.size w wd) := HB0.out.trans HKe.out.bel
    clear h1 h2 z0 z1 z2 z3
    obtain ⟨z0, z1, z2, z3⟩ := HBg.out wd HKe.out
    go_wp2_with fail
    have HKf : Hid (Kp w.heap.size (fun k => k = w.heap.size ∨ k = w.heap.size + 1) w0 wd) := HKe.out
    refine Calls.mono (HSp.out _ _ _ sp HSl.out HFd.out (by omega)) ?_
    rintro e wf ⟨rfl, h1, h2⟩
    have HFf : Hid (FlAt w.heap.size wf (w.heap.size + 2) wy 3 (fun k => k = w.heap.size ∨ k = w.heap.size + 1)) := by
      show FlAt _ _ _ _ _ _
      rw [← HWy.out]
      exact h1
    have HKg : Hid (Kp w.heap.size (fun k => k = w.heap.size ∨ k = w.heap.size + 1) w0 wf) := HKf.out.trans h2
    have HBg2 : Hid (Below w.heap.size w wf) := HB0.out.trans HKg.out.bel
    clear h1 h2 z0 z1 z2 z3
    obtain ⟨z0, z1, z2, z3⟩ := HBg.out wf HKg.out
    obtain ⟨vf, hvf, hcf⟩ := HFi.out wf _ _ HFf.out
    have HCf : Hid (_) := hcf
    clear hcf
    go_wp2_with fail
    refine Calls.mono HCf.out ?_
    rintro e wz ⟨rfl, hwz⟩
    obtain rfl : wf = wz := hwz.symm
    go_wp2_with fail
    exact bodyPost_ret (v := .tuple #[.slice none 0 0, .int .i64 wy]) (by simp [results, Try.results12, go_sem]) rfl ⟨_, rfl, by rw [HOf.out]; exact Or.inl ⟨rfl, _, _, rfl, fun _ => rfl⟩, HBg2.out⟩
set_option maxRecDepth 100000 in
set_option maxHeartbeats 8000000 in
theorem mayR_any (u v x : Value) (rs : List Ro) (bs : List Bi) (n : Bs) (gs : List Bs) (a : Ak) (w : World) (hg : Grs w u v rs bs) (hx : Strs w x gs) (hn : n.length ≤ maxLen) (hfg : FitS gs) (hfa : FitA a) (hN : grN rs bs ≤ 10000000000000) :
    Calls Try.prog 14 #[.agg #[u, v], .agg #[.string (Ba n), x], askV a] w fun e w' => e = .returned (.tuple #[.bool (mayB rs bs n gs a), .int .i64 (whyMayI rs bs n gs a)]) ∧ Below w.heap.size w w' := by
  obtain ⟨p, c, rfl, hn1⟩ := Sq.form hg.ros
  obtain ⟨p2, c2, rfl, hn2⟩ := Sq.form hg.bis
  obtain ⟨px, cx, rfl, hnx⟩ := hx.form
  have HG : Hid (∀ w1, Below w.heap.size w w1 → Calls Try.prog 8 #[.agg #[.slice p rs.length c, .slice p2 bs.length c2]] w1 fun e w' => e = .returned (.int .i64 (grI rs bs)) ∧ Below w1.heap.size w1 w') := fun w1 hb => grantsR_any _ _ rs bs w1 (hg.below hb) hN
  have HU : Hid (∀ w1, Below w.heap.size w w1 → Calls Try.prog 36 #[.agg #[.string (Ba n), .slice px gs.length cx]] w1 fun e w' => e = .returned (.int .i64 (userI n gs)) ∧ Below w1.heap.size w1 w') := fun w1 hb => rfuser_any n _ gs w1 hn (hx.below hb) hfg
  have HH : Hid (grI rs bs = 0 → ∀ w1, Below w.heap.size w w1 → Calls Try.prog 37 #[.agg #[.slice p rs.length c, .slice p2 bs.length c2], .agg #[.string (Ba n), .slice px gs.length cx], .string (Ba a.2.2.1)] w1 fun e w' => ∃ y, e = .returned y ∧ Rls w' y (heldP rs bs n gs a.2.2.1) ∧ Below w1.heap.size w1 w') := fun h0 w1 hb => by
    refine (heldR_any _ _ _ rs bs n gs a.2.2.1 w1 (hg.below hb) (hx.below hb) h0).mono ?_
    rintro e w2 ⟨y, L, rfl, hm, ho, hs, _, hb2⟩
    exact ⟨y, rfl, by rw [← hm]; exact rls_of_owns ho (hs.below hb2), hb2⟩
  have HAk : Hid (∀ w1, Calls Try.prog 10 #[askV a] w1 fun e w' => e = .returned (.int .i64 (askI a)) ∧ Below w1.heap.size w1 w') := fun w1 => askR_any a w1 hfa
  have HAl : Hid (∀ y w1, Rls w1 y (heldP rs bs n gs a.2.2.1) → Calls Try.prog 18 #[y, askV a] w1 fun e w' => e = .returned (.bool (allB (heldP rs bs n gs a.2.2.1) a)) ∧ Below w1.heap.size w1 w') := fun y w1 h => allowsR_any y _ a w1 h
  have HWy : Hid (orE (orE (grI rs bs) (userI n gs)) (askI a) = whyMayI rs bs n gs a) := rfl
  have HOff : Hid (whyMayI rs bs n gs a ≠ 0 → mayB rs bs n gs a = false) := fun h => by
    show _ = _
    unfold mayB; rw [decide_eq_false h]; rfl
  have HOn : Hid (whyMayI rs bs n gs a = 0 → grI rs bs = 0 ∧ mayB rs bs n gs a = allB (heldP rs bs n gs a.2.2.1) a) := fun h => ⟨(orE_zero.1 (orE_zero.1 h).1).1, by unfold mayB; rw [decide_eq_true h]; rfl⟩
  generalize heldP rs bs n gs a.2.2.1 = H at *
  generalize allB H a = al at *
  generalize mayB rs bs n gs a = mb at *
  generalize whyMayI rs bs n gs a = wy at *
  generalize askI a = q3 at *
  obtain ⟨vb, kd, sp, nm⟩ := a
  dsimp only [askV] at *
  obtain ⟨wb0, hwb⟩ : ∃ x, x = ((w.alloc (.cells #[.slice p rs.length c, .slice p2 bs.length c2] 25)).alloc (.cells #[.string (Ba n), .slice px gs.length cx] 34)).alloc (.cells #[.string (Ba vb), .string (Ba kd), .string (Ba sp), .string (Ba nm)] 27) := ⟨_, rfl⟩
  obtain ⟨w0, hw0⟩ : ∃ x, x = wb0.alloc (.cells #[.slice none 0 0] 58) := ⟨_, rfl⟩
  have hsb : wb0.heap.size = w.heap.size + 3 := by rw [hwb]; simp
  have hBb : Below w.heap.size w wb0 := by rw [hwb]; exact (((Below.refl _ _).alloc (Nat.le_refl _) _).alloc (by simp) _).alloc (by simp; omega) _
  have hB0 : Below w.heap.size w w0 := by rw [hw0]; exact hBb.alloc hBb.size _
  have hfl0 : FlAt w.heap.size w0 (w.heap.size + 3) 0 0 (fun k => k = w.heap.size ∨ k = w.heap.size + 1 ∨ k = w.heap.size + 2) := by
    refine ⟨by omega, .slice none 0 0, [], ?_, World.ownsRow_nil _ _ _ _, (fun e => by cases e), Nat.le_refl _, rfl, (fun x hx => by simp at hx), fun k hk => ?_⟩
    · rw [hw0, ← hsb]; exact heap_alloc_new _ _
    · have hsz : w0.heap.size = wb0.heap.size + 1 := by rw [hw0]; simp
      exact ⟨by omega, by omega, fun e => by cases e⟩
  have HBg : Hid (∀ w1, Kp w.heap.size (fun k => k = w.heap.size ∨ k = w.heap.size + 1 ∨ k = w.heap.size + 2) w0 w1 → ((w1.cell? ⟨w.heap.size, 0, none⟩ = some (.slice p rs.length c) ∧ w1.cell? ⟨w.heap.size, 1, none⟩ = some (.slice p2 bs.length c2) ∧ w1.cell? ⟨w.heap.size + 1, 0, none⟩ = some (.string (Ba n)) ∧ w1.cell? ⟨w.heap.size + 1, 1, none⟩ = some (.slice px gs.length cx)) ∧ w1.cell? ⟨w.heap.size + 2, 0, none⟩ = some (.string (Ba vb)) ∧ w1.cell? ⟨w.heap.size + 2, 1, none⟩ = some (.string (Ba kd)) ∧ w1.cell? ⟨w.heap.size + 2, 2, none⟩ = some (.string (Ba sp)) ∧ w1.cell? ⟨w.heap.size + 2, 3, none⟩ = some (.string (Ba nm)))) := fun w1 h => by
    have hz : Below wb0.heap.size wb0 w0 := by rw [hw0]; exact (Below.refl _ _).alloc (Nat.le_refl _) _
    have hsz : w0.heap.size = wb0.heap.size + 1 := by rw [hw0]; simp
    have hk : ∀ k, (fun k => k = w.heap.size ∨ k = w.heap.size + 1 ∨ k = w.heap.size + 2) k → w1.heap[k]? = wb0.heap[k]? := fun k hk => (h.kept k hk (by omega)).trans (hz.block k (by omega))
    have hcc : ∀ k o, (fun k => k = w.heap.size ∨ k = w.heap.size + 1 ∨ k = w.heap.size + 2) k → w1.cell? ⟨k, o, none⟩ = wb0.cell? ⟨k, o, none⟩ := fun k o hk' => World.cell?_of_block (hk k hk')
    have hbase := bxs3 (hwb ▸ Below.refl wb0.heap.size wb0)
    rw [← hwb] at hbase
    refine ⟨⟨?_, ?_, ?_, ?_⟩, ?_, ?_, ?_, ?_⟩
    all_goals (rw [hcc _ _ (by simp)])
    · exact hbase.1.1
    · exact hbase.1.2.1
    · exact hbase.1.2.2.1
    · exact hbase.1.2.2.2
    · exact hbase.2.1
    · exact hbase.2.2.1
    · exact hbase.2.2.2.1
    · exact hbase.2.2.2.2
  have HB0 : Hid (Below w.heap.size w w0) := hB0
  have HF0 : Hid (FlAt w.heap.size w0 (w.heap.size + 3) 0 0 (fun k => k = w.heap.size ∨ k = w.heap.size + 1 ∨ k = w.heap.size + 2)) := hfl0
  have HWb : Hid (wb0 = ((w.alloc (.cells #[.slice p rs.length c, .slice p2 bs.length c2] 25)).alloc (.cells #[.string (Ba n), .slice px gs.length cx] 34)).alloc (.cells #[.string (Ba vb), .string (Ba kd), .string (Ba sp), .string (Ba nm)] 27)) := hwb
  have HW0 : Hid (w0 = wb0.alloc (.cells #[.slice none 0 0] 58)) := hw0
  have HSa : Hid (∀ w1 e' m x, FlAt w.heap.size w1 (w.heap.size + 3) e' m (fun k => k = w.heap.size ∨ k = w.heap.size + 1 ∨ k = w.heap.size + 2) → m ≤ 10000000000000 → Calls Try.prog 26 #[.pointer (some ⟨w.heap.size + 3, 0, none⟩), .int .i64 x] w1 fun r w' => r = .returned (.tuple #[]) ∧ FlAt w.heap.size w' (w.heap.size + 3) (orE e' x) (m + 1) (fun k => k = w.heap.size ∨ k = w.heap.size + 1 ∨ k = w.heap.size + 2) ∧ Kp w.heap.size (fun k => k = w.heap.size ∨ k = w.heap.size + 1 ∨ k = w.heap.size + 2) w1 w') := fun w1 e' m x h hm => says_any _ _ e' x m _ w1 h hm
  have HSp : Hid (∀ w1 e' m s, s.length ≤ maxLen → FlAt w.heap.size w1 (w.heap.size + 3) e' m (fun k => k = w.heap.size ∨ k = w.heap.size + 1 ∨ k = w.heap.size + 2) → m ≤ 10000000000000 → Calls Try.prog 25 #[.pointer (some ⟨w.heap.size + 3, 0, none⟩), .string (Ba s)] w1 fun r w' => r = .returned (.tuple #[]) ∧ FlAt w.heap.size w' (w.heap.size + 3) (orE e' (ifI s)) (m + 1) (fun k => k = w.heap.size ∨ k = w.heap.size + 1 ∨ k = w.heap.size + 2) ∧ Kp w.heap.size (fun k => k = w.heap.size ∨ k = w.heap.size + 1 ∨ k = w.heap.size + 2) w1 w') := fun w1 e' m s hs h hm => space_any _ _ e' m _ s w1 h hm hs
  have HFi : Hid (∀ w1 e' m, FlAt w.heap.size w1 (w.heap.size + 3) e' m (fun k => k = w.heap.size ∨ k = w.heap.size + 1 ∨ k = w.heap.size + 2) → ∃ v, w1.cell? ⟨w.heap.size + 3, 0, none⟩ = some v ∧ Calls Try.prog 30 #[v] w1 fun r w' => r = .returned (.int .i64 e') ∧ w' = w1) := fun w1 e' m h => first_any _ _ e' m _ w1 h
  have HKb : Hid (∀ w1 w2, Below w.heap.size w w1 → Below w1.heap.size w1 w2 → Kp w.heap.size (fun k => k = w.heap.size ∨ k = w.heap.size + 1 ∨ k = w.heap.size + 2) w1 w2) := fun w1 w2 h1 h2 => Kp.of_below h2 h1.size
  clear hg hx hn hfg hN hwb hw0 hsb hBb hB0 hfl0 hfa
  generalize grI rs bs = q1 at *
  generalize userI n gs = q2 at *
  generalize rs.length = lr at *
  generalize bs.length = lb at *
  generalize gs.length = lg at *
  unfold maxLen at hn1 hn2 hnx
  by_cases hz : wy = 0
  · have bz : (wy != 0) = false := by simp [hz]
    obtain ⟨hq1, hon⟩ := HOn.out hz
    have HZ : Hid (wy = 0) := hz
    have HOn2 : Hid (_) := hon
    have HH2 : Hid (_) := HH.out hq1
    clear HOn HOff hz hq1 hon HH
    go_enter Try.func14, Try.ntmps14
    go_wp2_with fail
    rw [← HWb.out, ← HW0.out]
    refine Calls.mono (HG.out _ HB0.out) ?_
    rintro e wa ⟨rfl, bb⟩
    have HFa : Hid (FlAt w.heap.size wa (w.heap.size + 3) 0 0 (fun k => k = w.heap.size ∨ k = w.heap.size + 1 ∨ k = w.heap.size + 2)) := HF0.out.below bb
    have HKa : Hid (Kp w.heap.size (fun k => k = w.heap.size ∨ k = w.heap.size + 1 ∨ k = w.heap.size + 2) w0 wa) := HKb.out _ _ HB0.out bb
    clear bb
    obtain ⟨⟨z0, z1, z2, z3⟩, z4, z5, z6, z7⟩ := HBg.out wa HKa.out
    go_wp2_with fail
    refine Calls.mono (HSa.out _ _ _ _ HFa.out (by omega)) ?_
    rintro e wb ⟨rfl, h1, h2⟩
    have HFb : Hid (FlAt w.heap.size wb (w.heap.size + 3) (orE 0 q1) 1 (fun k => k = w.heap.size ∨ k = w.heap.size + 1 ∨ k = w.heap.size + 2)) := h1
    have HKc : Hid (Kp w.heap.size (fun k => k = w.heap.size ∨ k = w.heap.size + 1 ∨ k = w.heap.size + 2) w0 wb) := HKa.out.trans h2
    have HBc : Hid (Below w.heap.size w wb) := HB0.out.trans HKc.out.bel
    clear h1 h2 z0 z1 z2 z3 z4 z5 z6 z7
    obtain ⟨⟨z0, z1, z2, z3⟩, z4, z5, z6, z7⟩ := HBg.out wb HKc.out
    go_wp2_with fail
    refine Calls.mono (HU.out _ HBc.out) ?_
    rintro e wc ⟨rfl, bb⟩
    have HFc : Hid (FlAt w.heap.size wc (w.heap.size + 3) (orE 0 q1) 1 (fun k => k = w.heap.size ∨ k = w.heap.size + 1 ∨ k = w.heap.size + 2)) := HFb.out.below bb
    have HKd : Hid (Kp w.heap.size (fun k => k = w.heap.size ∨ k = w.heap.size + 1 ∨ k = w.heap.size + 2) w0 wc) := HKc.out.trans (HKb.out _ _ HBc.out bb)
    clear bb z0 z1 z2 z3 z4 z5 z6 z7
    obtain ⟨⟨z0, z1, z2, z3⟩, z4, z5, z6, z7⟩ := HBg.out wc HKd.out
    go_wp2_with fail
    refine Calls.mono (HSa.out _ _ _ _ HFc.out (by omega)) ?_
    rintro e wd ⟨rfl, h1, h2⟩
    have HFd : Hid (FlAt w.heap.size wd (w.heap.size + 3) (orE (orE 0 q1) q2) 2 (fun k => k = w.heap.size ∨ k = w.heap.size + 1 ∨ k = w.heap.size + 2)) := h1
    have HKe : Hid (Kp w.heap.size (fun k => k = w.heap.size ∨ k = w.heap.size + 1 ∨ k = w.heap.size + 2) w0 wd) := HKd.out.trans h2
    have HBe : Hid (Below w.heap.size w wd) := HB0.out.trans HKe.out.bel
    clear h1 h2 z0 z1 z2 z3 z4 z5 z6 z7
    obtain ⟨⟨z0, z1, z2, z3⟩, z4, z5, z6, z7⟩ := HBg.out wd HKe.out
    go_wp2_with fail
    refine Calls.mono (HAk.out _) ?_
    rintro e we ⟨rfl, bb⟩
    have HFe : Hid (FlAt w.heap.size we (w.heap.size + 3) (orE (orE 0 q1) q2) 2 (fun k => k = w.heap.size ∨ k = w.heap.size + 1 ∨ k = w.heap.size + 2)) := HFd.out.below bb
    have HKf : Hid (Kp w.heap.size (fun k => k = w.heap.size ∨ k = w.heap.size + 1 ∨ k = w.heap.size + 2) w0 we) := HKe.out.trans (HKb.out _ _ HBe.out bb)
    clear bb z0 z1 z2 z3 z4 z5 z6 z7
    obtain ⟨⟨z0, z1, z2, z3⟩, z4, z5, z6, z7⟩ := HBg.out we HKf.out
    go_wp2_with fail
    refine Calls.mono (HSa.out _ _ _ _ HFe.out (by omega)) ?_
    rintro e wf ⟨rfl, h1, h2⟩
    have HFf : Hid (FlAt w.heap.size wf (w.heap.size + 3) wy 3 (fun k => k = w.heap.size ∨ k = w.heap.size + 1 ∨ k = w.heap.size + 2)) := by
      show FlAt _ _ _ _ _ _
      rw [← HWy.out]
      exact h1
    have HKg : Hid (Kp w.heap.size (fun k => k = w.heap.size ∨ k = w.heap.size + 1 ∨ k = w.heap.size + 2) w0 wf) := HKf.out.trans h2
    have HBg2 : Hid (Below w.heap.size w wf) := HB0.out.trans HKg.out.bel
    clear h1 h2 z0 z1 z2 z3 z4 z5 z6 z7
    obtain ⟨⟨z0, z1, z2, z3⟩, z4, z5, z6, z7⟩ := HBg.out wf HKg.out
    obtain ⟨vf, hvf, hcf⟩ := HFi.out wf _ _ HFf.out
    have HCf : Hid (_) := hcf
    clear hcf
    go_wp2_with fail
    refine Calls.mono HCf.out ?_
    rintro e wz ⟨rfl, hwz⟩
    obtain rfl : wf = wz := hwz.symm
    go_wp2_with fail
    refine M_begin 7 9 (fun w' => Below wf.heap.size wf w') (by kernel_rfl) rfl ?_
    have hHeld : (fun w' => Below wf.heap.size wf w') wf.drew := (Below.refl _ _).drew
    refine M_take 0 (oi := { dst := some 24, op := Op.load 25 (Operand.tmp 3), type := 25, pos := "rights.go:372", after := #[], guard := none }) (v := .agg #[.slice p lr c, .slice p2 lb c2]) rfl (by kernel_rfl) (by kernel_rfl) (by kernel_rfl) (by kernel_rfl) (by kernel_rfl) (by decide) (by decide) (by kernel_rfl) (fun _ _ _ h => h) hHeld ?hy1 ?_
    case hy1 => exact (Or.inl ⟨by rfl, by (intro w' hSw; obtain ⟨⟨y0, y1, y2, y3⟩, y4, y5, y6, y7⟩ := HBg.out w' (HKg.out.trans (HKb.out _ _ HBg2.out hSw)); go_simp; try (with_reducible rfl))⟩)
    try simp only [Act.put, List.setIfInBounds_toArray, List.set_cons_zero, List.set_cons_succ]
    refine M_take 1 (oi := { dst := some 25, op := Op.load 34 (Operand.tmp 4), type := 34, pos := "rights.go:372", after := #[], guard := none }) (v := .agg #[.string (Ba n), .slice px lg cx]) rfl (by kernel_rfl) (by kernel_rfl) (by kernel_rfl) (by kernel_rfl) (by kernel_rfl) (by decide) (by decide) (by kernel_rfl) (fun _ _ _ h => h) hHeld ?hy2 ?_
    case hy2 => exact (Or.inl ⟨by rfl, by (intro w' hSw; obtain ⟨⟨y0, y1, y2, y3⟩, y4, y5, y6, y7⟩ := HBg.out w' (HKg.out.trans (HKb.out _ _ HBg2.out hSw)); go_simp; try (with_reducible rfl))⟩)
    try simp only [Act.put, List.setIfInBounds_toArray, List.set_cons_zero, List.set_cons_succ]
    refine M_take 2 (oi := { dst := some 26, op := Op.fieldAddr 27 (Operand.tmp 5) 2, type := 0, pos := "rights.go:372", after := #[], guard := none }) (v := ?vt3) rfl (by kernel_rfl) (by kernel_rfl) (by kernel_rfl) (by kernel_rfl) (by kernel_rfl) (by decide) (by decide) (by kernel_rfl) (fun _ _ _ h => h) hHeld ?hy3 ?_
    case hy3 => exact (Or.inl ⟨by rfl, by (intro w' hSw; go_simp; try (with_reducible rfl))⟩)
    try simp only [Act.put, List.setIfInBounds_toArray, List.set_cons_zero, List.set_cons_succ]
    refine M_take 3 (oi := { dst := some 27, op := Op.load 9 (Operand.tmp 26), type := 9, pos := "rights.go:372", after := #[{ on := 2, ground := Ground.data }], guard := none }) (v := .string (Ba sp)) rfl (by kernel_rfl) (by kernel_rfl) (by kernel_rfl) (by kernel_rfl) (by kernel_rfl) (by decide) (by decide) (by kernel_rfl) (fun _ _ _ h => h) hHeld ?hy4 ?_
    case hy4 => exact (Or.inl ⟨by rfl, by (intro w' hSw; obtain ⟨⟨y0, y1, y2, y3⟩, y4, y5, y6, y7⟩ := HBg.out w' (HKg.out.trans (HKb.out _ _ HBg2.out hSw)); go_simp; try (with_reducible rfl))⟩)
    try simp only [Act.put, List.setIfInBounds_toArray, List.set_cons_zero, List.set_cons_succ]
    refine M_take 5 (oi := { dst := some 29, op := Op.load 27 (Operand.tmp 5), type := 27, pos := "rights.go:372", after := #[], guard := none }) (v := .agg #[.string (Ba vb), .string (Ba kd), .string (Ba sp), .string (Ba nm)]) rfl (by kernel_rfl) (by kernel_rfl) (by kernel_rfl) (by kernel_rfl) (by kernel_rfl) (by decide) (by decide) (by kernel_rfl) (fun _ _ _ h => h) hHeld ?hy5 ?_
    case hy5 => exact (Or.inl ⟨by rfl, by (intro w' hSw; obtain ⟨⟨y0, y1, y2, y3⟩, y4, y5, y6, y7⟩ := HBg.out w' (HKg.out.trans (HKb.out _ _ HBg2.out hSw)); go_simp; try (with_reducible rfl))⟩)
    try simp only [Act.put, List.setIfInBounds_toArray, List.set_cons_zero, List.set_cons_succ]
    refine M_ready [4] (by kernel_rfl) (by decide) ?_
    refine AllM.cons (i := 4) (o := { dst := some 28, op := Op.call { callee := Callee.value (Operand.func 37), args := #[Operand.tmp 24, Operand.tmp 25, Operand.tmp 27], argTypes := #[25, 34, 9] }, type := 35, pos := "rights.go:372", after := #[{ on := 0, ground := Ground.data }, { on := 1, ground := Ground.data }, { on := 3, ground := Ground.data }], guard := none }) rfl (fun K hK => ?_) AllM.nil
    rw [if_pos (by rfl)]
    go_wp2_with fail
    refine Calls.mono (HH2.out _ (HBg2.out.trans (hHeld.mono HBg2.out.size))) ?_
    rintro e wh ⟨y, rfl, hrl, bb⟩
    dsimp only
    refine hK.out _ _ (hHeld.trans (bb.mono hHeld.size)) (fun hHeld2 => ?_)
    clear hK K hHeld bb
    have hHeld := hHeld2
    clear hHeld2
    try simp only [Act.put, List.setIfInBounds_toArray, List.set_cons_zero, List.set_cons_succ]
    refine M_ready [6] (by kernel_rfl) (by decide) ?_
    refine AllM.cons (i := 6) (o := { dst := some 30, op := Op.call { callee := Callee.value (Operand.func 18), args := #[Operand.tmp 28, Operand.tmp 29], argTypes := #[35, 27] }, type := 4, pos := "rights.go:372", after := #[{ on := 4, ground := Ground.data }, { on := 5, ground := Ground.data }, { on := 4, ground := Ground.chain }], guard := none }) rfl (fun K hK => ?_) AllM.nil
    rw [if_pos (by rfl)]
    go_wp2_with fail
    refine Calls.mono (HAl.out y wh hrl) ?_
    rintro e wi ⟨rfl, bb⟩
    dsimp only
    refine hK.out _ _ (hHeld.trans (bb.mono hHeld.size)) (fun hHeld2 => ?_)
    clear hK K hHeld bb
    have hHeld := hHeld2
    clear hHeld2
    try simp only [Act.put, List.setIfInBounds_toArray, List.set_cons_zero, List.set_cons_succ]
    refine M_tail [{ dst := some 6, op := Op.assign (Operand.tmp 30), type := 4, pos := "rights.go:372", after := #[{ on := 6, ground := Ground.data }, { on := 6, ground := Ground.chain }, { on := 0, ground := Ground.phase }, { on := 1, ground := Ground.phase }, { on := 2, ground := Ground.phase }, { on := 3, ground := Ground.phase }, { on := 4, ground := Ground.phase }, { on := 5, ground := Ground.phase }, { on := 6, ground := Ground.phase }], guard := none }, { dst := some 7, op := Op.assign (Operand.const (Value.int IntKind.i64 0)), type := 28, pos := "rights.go:372", after := #[{ on := 7, ground := Ground.chain }, { on := 0, ground := Ground.phase }, { on := 1, ground := Ground.phase }, { on := 2, ground := Ground.phase }, { on := 3, ground := Ground.phase }, { on := 4, ground := Ground.phase }, { on := 5, ground := Ground.phase }, { on := 6, ground := Ground.phase }, { on := 7, ground := Ground.phase }], guard := none }] rfl (by kernel_rfl) (by kernel_rfl) ?_
    have HBh : Hid (Below w.heap.size w wi) := HBg2.out.trans (hHeld.mono HBg2.out.size)
    clear hHeld hrl
    go_wp2_with fail
    exact bodyPost_ret (v := .tuple #[.bool al, .int .i64 0]) (by simp [results, Try.results14, go_sem]) rfl ⟨by rw [HZ.out, HOn2.out], HBh.out⟩
  · have bz : (wy != 0) = true := by simpa using hz
    have HOf : Hid (_) := HOff.out hz
    clear HOn HOff hz HH
    go_enter Try.func14, Try.ntmps14
    go_wp2_with fail
    rw [← HWb.out, ← HW0.out]
    refine Calls.mono (HG.out _ HB0.out) ?_
    rintro e wa ⟨rfl, bb⟩
    have HFa : Hid (FlAt w.heap.size wa (w.heap.size + 3) 0 0 (fun k => k = w.heap.size ∨ k = w.heap.size + 1 ∨ k = w.heap.size + 2)) := HF0.out.below bb
    have HKa : Hid (Kp w.heap.size (fun k => k = w.heap.size ∨ k = w.heap.size + 1 ∨ k = w.heap.size + 2) w0 wa) := HKb.out _ _ HB0.out bb
    clear bb
    obtain ⟨⟨z0, z1, z2, z3⟩, z4, z5, z6, z7⟩ := HBg.out wa HKa.out
    go_wp2_with fail
    refine Calls.mono (HSa.out _ _ _ _ HFa.out (by omega)) ?_
    rintro e wb ⟨rfl, h1, h2⟩
    have HFb : Hid (FlAt w.heap.size wb (w.heap.size + 3) (orE 0 q1) 1 (fun k => k = w.heap.size ∨ k = w.heap.size + 1 ∨ k = w.heap.size + 2)) := h1
    have HKc : Hid (Kp w.heap.size (fun k => k = w.heap.size ∨ k = w.heap.size + 1 ∨ k = w.heap.size + 2) w0 wb) := HKa.out.trans h2
    have HBc : Hid (Below w.heap.size w wb) := HB0.out.trans HKc.out.bel
    clear h1 h2 z0 z1 z2 z3 z4 z5 z6 z7
    obtain ⟨⟨z0, z1, z2, z3⟩, z4, z5, z6, z7⟩ := HBg.out wb HKc.out
    go_wp2_with fail
    refine Calls.mono (HU.out _ HBc.out) ?_
    rintro e wc ⟨rfl, bb⟩
    have HFc : Hid (FlAt w.heap.size wc (w.heap.size + 3) (orE 0 q1) 1 (fun k => k = w.heap.size ∨ k = w.heap.size + 1 ∨ k = w.heap.size + 2)) := HFb.out.below bb
    have HKd : Hid (Kp w.heap.size (fun k => k = w.heap.size ∨ k = w.heap.size + 1 ∨ k = w.heap.size + 2) w0 wc) := HKc.out.trans (HKb.out _ _ HBc.out bb)
    clear bb z0 z1 z2 z3 z4 z5 z6 z7
    obtain ⟨⟨z0, z1, z2, z3⟩, z4, z5, z6, z7⟩ := HBg.out wc HKd.out
    go_wp2_with fail
    refine Calls.mono (HSa.out _ _ _ _ HFc.out (by omega)) ?_
    rintro e wd ⟨rfl, h1, h2⟩
    have HFd : Hid (FlAt w.heap.size wd (w.heap.size + 3) (orE (orE 0 q1) q2) 2 (fun k => k = w.heap.size ∨ k = w.heap.size + 1 ∨ k = w.heap.size + 2)) := h1
    have HKe : Hid (Kp w.heap.size (fun k => k = w.heap.size ∨ k = w.heap.size + 1 ∨ k = w.heap.size + 2) w0 wd) := HKd.out.trans h2
    have HBe : Hid (Below w.heap.size w wd) := HB0.out.trans HKe.out.bel
    clear h1 h2 z0 z1 z2 z3 z4 z5 z6 z7
    obtain ⟨⟨z0, z1, z2, z3⟩, z4, z5, z6, z7⟩ := HBg.out wd HKe.out
    go_wp2_with fail
    refine Calls.mono (HAk.out _) ?_
    rintro e we ⟨rfl, bb⟩
    have HFe : Hid (FlAt w.heap.size we (w.heap.size + 3) (orE (orE 0 q1) q2) 2 (fun k => k = w.heap.size ∨ k = w.heap.size + 1 ∨ k = w.heap.size + 2)) := HFd.out.below bb
    have HKf : Hid (Kp w.heap.size (fun k => k = w.heap.size ∨ k = w.heap.size + 1 ∨ k = w.heap.size + 2) w0 we) := HKe.out.trans (HKb.out _ _ HBe.out bb)
    clear bb z0 z1 z2 z3 z4 z5 z6 z7
    obtain ⟨⟨z0, z1, z2, z3⟩, z4, z5, z6, z7⟩ := HBg.out we HKf.out
    go_wp2_with fail
    refine Calls.mono (HSa.out _ _ _ _ HFe.out (by omega)) ?_
    rintro e wf ⟨rfl, h1, h2⟩
    have HFf : Hid (FlAt w.heap.size wf (w.heap.size + 3) wy 3 (fun k => k = w.heap.size ∨ k = w.heap.size + 1 ∨ k = w.heap.size + 2)) := by
      show FlAt _ _ _ _ _ _
      rw [← HWy.out]
      exact h1
    have HKg : Hid (Kp w.heap.size (fun k => k = w.heap.size ∨ k = w.heap.size + 1 ∨ k = w.heap.size + 2) w0 wf) := HKf.out.trans h2
    have HBg2 : Hid (Below w.heap.size w wf) := HB0.out.trans HKg.out.bel
    clear h1 h2 z0 z1 z2 z3 z4 z5 z6 z7
    obtain ⟨⟨z0, z1, z2, z3⟩, z4, z5, z6, z7⟩ := HBg.out wf HKg.out
    obtain ⟨vf, hvf, hcf⟩ := HFi.out wf _ _ HFf.out
    have HCf : Hid (_) := hcf
    clear hcf
    go_wp2_with fail
    refine Calls.mono HCf.out ?_
    rintro e wz ⟨rfl, hwz⟩
    obtain rfl : wf = wz := hwz.symm
    go_wp2_with fail
    exact bodyPost_ret (v := .tuple #[.bool false, .int .i64 wy]) (by simp [results, Try.results14, go_sem]) rfl ⟨by rw [HOf.out], HBg2.out⟩
end Go.Proofs.Ytnjjlnhchfoigaa
