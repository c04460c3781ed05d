/- Contracts over this translation: grants.checkRule, checkRules. -/
import Derived.Test.YtnjjlnhchfoigabDoorGrNames
namespace Go.Proofs.YtnjjlnhchfoigabDoor
open Go.RowKit
set_option linter.unusedVariables false
set_option linter.unusedSimpArgs false
theorem bx3 {w w1 : World} {a b c : Value} {t : TypeId} (h : Below (w.alloc (.cells #[a, b, c] t)).heap.size (w.alloc (.cells #[a, b, c] t)) w1) :
    w1.cell? ⟨w.heap.size, 0, none⟩ = some a ∧ w1.cell? ⟨w.heap.size, 1, none⟩ = some b ∧ w1.cell? ⟨w.heap.size, 2, none⟩ = some c := by
  rw [h.cell (p := ⟨w.heap.size, 0, none⟩) (by simp), h.cell (p := ⟨w.heap.size, 1, none⟩) (by simp), h.cell (p := ⟨w.heap.size, 2, none⟩) (by simp)]
  rw [World.cell?_alloc_at _ _ _ _ rfl, World.cell?_alloc_at _ _ _ _ rfl, World.cell?_alloc_at _ _ _ _ rfl]
  exact ⟨rfl, rfl, rfl⟩
theorem rule_big {r : Rl} (h : bigB r = true) : ruleI r = 2 := by
  unfold ruleI; rw [h]; rfl
theorem rule_bare {r : Rl} (h : bigB r = false) (g : bareB r = true) : ruleI r = 1 := by
  unfold ruleI; rw [h, g]; rfl
theorem rule_fair {r : Rl} (h : bigB r = false) (g : bareB r = false) : ruleI r = orE (firstE wordI r.1) (orE (firstE wordI r.2.1) (firstE cI r.2.2)) := by
  unfold ruleI; rw [h, g]; rfl
theorem run_max3 (a b c : Int) : ∃ m : Int, m = max (max a b) c ∧ ∀ (ts : Array TypeId) (t : TypeId) (w : World), (Builtin.max_ ts t #[.int .i64 a, .int .i64 b, .int .i64 c]).run Tryd.prog w = .ok (.int .i64 m) w := by
  refine ⟨_, rfl, fun ts t w => ?_⟩
  have e : (if c > (if b > a then b else a) then c else (if b > a then b else a)) = max (max a b) c := by
    split <;> split at * <;> omega
  rw [← e]
  simp [Builtin.max_, Builtin.max2]
theorem big_max (a b c : Nat) : (decide (6 < a) || decide (6 < b) || decide (6 < c)) = decide ((6 : Int) < max (max (a : Int) b) c) := by
  rw [Bool.eq_iff_iff]
  simp only [Bool.or_eq_true, decide_eq_true_eq]
  omega
set_option maxRecDepth 100000 in
set_option maxHeartbeats 2000000 in
theorem rule_any (r : Rl) (a b c : Value) (w : World) (ha : Strs w a r.1) (hb : Strs w b r.2.1) (hc : Strs w c r.2.2) (hf : FitR r) :
    Calls Tryd.prog 41 #[.agg #[a, b, c]] w fun e w' => e = .returned (.int .i64 (ruleI r)) ∧ Below w.heap.size w w' := by
  have hB0 : Below w.heap.size w (w.alloc (.cells #[a, b, c] 40)) := (Below.refl _ _).alloc (Nat.le_refl _) _
  have HA : Hid (Calls Tryd.prog 55 #[a] (w.alloc (.cells #[a, b, c] 40)) fun e w' => e = .returned (.int .i64 (firstE wordI r.1)) ∧ w' = w.alloc (.cells #[a, b, c] 40)) := words_any a r.1 _ (ha.below hB0) hf.1
  have HBb : Hid (Calls Tryd.prog 55 #[b] (w.alloc (.cells #[a, b, c] 40)) fun e w' => e = .returned (.int .i64 (firstE wordI r.2.1)) ∧ w' = w.alloc (.cells #[a, b, c] 40)) := words_any b r.2.1 _ (hb.below hB0) hf.2.1
  have HC : Hid (Calls Tryd.prog 43 #[c] (w.alloc (.cells #[a, b, c] 40)) fun e w' => e = .returned (.int .i64 (firstE cI r.2.2)) ∧ w' = w.alloc (.cells #[a, b, c] 40)) := names_any c r.2.2 _ (hc.below hB0) hf.2.2
  have HB0 : Hid (Below w.heap.size w (w.alloc (.cells #[a, b, c] 40))) := hB0
  obtain ⟨p1, c1, rfl, hn1⟩ := ha.form
  obtain ⟨p2, c2, rfl, hn2⟩ := hb.form
  obtain ⟨p3, c3, rfl, hn3⟩ := hc.form
  obtain ⟨vs, ks, ns⟩ := r
  dsimp only at *
  have HE1 : Hid (bigB (vs, ks, ns) = true → ruleI (vs, ks, ns) = 2) := rule_big
  have HE2 : Hid (bigB (vs, ks, ns) = false → bareB (vs, ks, ns) = true → ruleI (vs, ks, ns) = 1) := rule_bare
  have HE3 : Hid (bigB (vs, ks, ns) = false → bareB (vs, ks, ns) = false → ruleI (vs, ks, ns) = orE (firstE wordI vs) (orE (firstE wordI ks) (firstE cI ns))) := rule_fair
  have HBg : Hid (bigB (vs, ks, ns) = decide ((6 : Int) < max (max (vs.length : Int) ks.length) ns.length)) := big_max _ _ _
  have HBr : Hid (bareB (vs, ks, ns) = (decide (vs.length = 0) || decide (ks.length = 0))) := rfl
  clear ha hb hc hf hB0
  generalize ruleI (vs, ks, ns) = res at *
  generalize bigB (vs, ks, ns) = big at *
  generalize bareB (vs, ks, ns) = bare at *
  generalize firstE wordI vs = e1 at *
  generalize firstE wordI ks = e2 at *
  generalize firstE cI ns = e3 at *
  generalize vs.length = l1 at *
  generalize ks.length = l2 at *
  generalize ns.length = l3 at *
  unfold maxLen at hn1 hn2 hn3
  obtain ⟨m, hm, hrun⟩ := run_max3 l1 l2 l3
  rw [← hm] at HBg
  clear hm
  cases big with
  | true =>
    have hI : (6 : Int) < m := of_decide_eq_true HBg.out.symm
    have HX : Hid (res = 2) := HE1.out rfl
    go_enter Tryd.func41, Tryd.ntmps41
    go_wp2_with fail
    go_ret
    exact ⟨by rw [HX.out]; rfl, HB0.out⟩
  | false =>
    have hI : ¬ (6 : Int) < m := of_decide_eq_false HBg.out.symm
    by_cases z1 : l1 = 0
    · have HX : Hid (res = 1) := HE2.out rfl (by rw [HBr.out, decide_eq_true z1]; rfl)
      have y1 : ((l1 : Int) == 0) = true := by simp; omega
      clear z1
      go_enter Tryd.func41, Tryd.ntmps41
      go_wp2_with fail
      go_ret
      exact ⟨by rw [HX.out]; rfl, HB0.out⟩
    by_cases z2 : l2 = 0
    · have HX : Hid (res = 1) := HE2.out rfl (by rw [HBr.out, decide_eq_true z2, Bool.or_true])
      have y2 : ((l2 : Int) == 0) = true := by simp; omega
      have y1 : ((l1 : Int) == 0) = false := by simp; omega
      clear z1 z2
      go_enter Tryd.func41, Tryd.ntmps41
      go_wp2_with fail
      go_ret
      exact ⟨by rw [HX.out]; rfl, HB0.out⟩
    have y1 : ((l1 : Int) == 0) = false := by simp; omega
    have y2 : ((l2 : Int) == 0) = false := by simp; omega
    have HX : Hid (res = orE e1 (orE e2 e3)) := HE3.out rfl (by rw [HBr.out]; simp [z1, z2])
    clear HE1 HE2 HE3 HBg HBr z1 z2
    by_cases h1 : e1 = 0
    · have b1 : (e1 != 0) = false := by simp [h1]
      by_cases h2 : e2 = 0
      · have b2 : (e2 != 0) = false := by simp [h2]
        have HX2 : Hid (res = e3) := by show _ = _; rw [HX.out, orE_r h1, orE_r h2]
        go_enter Tryd.func41, Tryd.ntmps41
        go_wp2_with fail
        refine Calls.mono HA.out ?_
        rintro e w1 ⟨rfl, rfl⟩
        go_wp2_with fail
        refine Calls.mono HBb.out ?_
        rintro e w1 ⟨rfl, rfl⟩
        go_wp2_with fail
        refine Calls.mono HC.out ?_
        rintro e w1 ⟨rfl, rfl⟩
        go_wp2_with fail
        go_ret
        exact ⟨by rw [HX2.out]; rfl, HB0.out⟩
      · have b2 : (e2 != 0) = true := by simpa using h2
        have HX2 : Hid (res = e2) := by show _ = _; rw [HX.out, orE_r h1, orE_l h2]
        go_enter Tryd.func41, Tryd.ntmps41
        go_wp2_with fail
        refine Calls.mono HA.out ?_
        rintro e w1 ⟨rfl, rfl⟩
        go_wp2_with fail
        refine Calls.mono HBb.out ?_
        rintro e w1 ⟨rfl, rfl⟩
        go_wp2_with fail
        go_ret
        exact ⟨by rw [HX2.out]; rfl, HB0.out⟩
    · have b1 : (e1 != 0) = true := by simpa using h1
      have HX2 : Hid (res = e1) := by show _ = _; rw [HX.out, orE_l h1]
      go_enter Tryd.func41, Tryd.ntmps41
      go_wp2_with fail
      refine Calls.mono HA.out ?_
      rintro e w1 ⟨rfl, rfl⟩
      go_wp2_with fail
      go_ret
      exact ⟨by rw [HX2.out]; rfl, HB0.out⟩
end Go.Proofs.YtnjjlnhchfoigabDoor
