/- Contract over this translation: grants.checkRules. -/
import Derived.Test.YtnjjlnhchfoigabDoorGrRule
namespace Go.Proofs.YtnjjlnhchfoigabDoor
open Go.RowKit
set_option linter.unusedVariables false
set_option linter.unusedSimpArgs false
theorem rules_large {l : List Rl} (h : 8 < l.length) : rulesI l = 2 := by
  unfold rulesI; rw [decide_eq_true h]; rfl
theorem rules_small {l : List Rl} (h : ¬ 8 < l.length) : rulesI l = firstE ruleI (l.drop 0) := by
  unfold rulesI; rw [decide_eq_false h]; rfl
/-- rules, taken apart -/
theorem rls_open {w : World} {v : Value} {l : List Rl} (h : Rls w v l) :
    ∃ p c, v = .slice p l.length c ∧ l.length ≤ maxLen ∧ ∀ k (hk : k < l.length), ∃ g o, p = some ⟨g, o, none⟩ ∧ l.length ≤ c ∧ g < w.heap.size ∧ ∀ w1, Below w.heap.size w w1 → ∃ p1 n1 c1 p2 n2 c2 p3 n3 c3,
      w1.cell? ⟨g, o + k * 3, none⟩ = some (.slice p1 n1 c1) ∧ w1.cell? ⟨g, o + k * 3 + 1, none⟩ = some (.slice p2 n2 c2) ∧ w1.cell? ⟨g, o + k * 3 + 2, none⟩ = some (.slice p3 n3 c3) ∧ Strs w1 (.slice p1 n1 c1) l[k].1 ∧ Strs w1 (.slice p2 n2 c2) l[k].2.1 ∧ Strs w1 (.slice p3 n3 c3) l[k].2.2 := by
  obtain ⟨p, c, e, hn, hc⟩ := Sq.open rlAt_stays h
  refine ⟨p, c, e, hn, fun k hk => ?_⟩
  obtain ⟨g, o, h1, h2, h3, h4⟩ := hc k hk
  refine ⟨g, o, h1, h2, h3, fun w1 hb => ?_⟩
  obtain ⟨a, b, d, k1, k2, k3, s1, s2, s3⟩ := h4 w1 hb
  obtain ⟨p1, c1, rfl, _⟩ := s1.form
  obtain ⟨p2, c2, rfl, _⟩ := s2.form
  obtain ⟨p3, c3, rfl, _⟩ := s3.form
  exact ⟨p1, _, c1, p2, _, c2, p3, _, c3, k1, k2, k3, s1, s2, s3⟩
set_option maxRecDepth 100000 in
set_option maxHeartbeats 2000000 in
theorem rules_any (v : Value) (l : List Rl) (w : World) (hv : Rls w v l) (hf : ∀ r ∈ l, FitR r) :
    Calls Tryd.prog 19 #[v] w fun e w' => e = .returned (.int .i64 (rulesI l)) ∧ Below w.heap.size w w' := by
  obtain ⟨p, c, rfl, hn, hcell⟩ := rls_open hv
  have HC : Hid (∀ k (hk : k < l.length), ∃ g o, p = some ⟨g, o, none⟩ ∧ l.length ≤ c ∧ g < w.heap.size ∧ ∀ w1, Below w.heap.size w w1 → ∃ p1 n1 c1 p2 n2 c2 p3 n3 c3,
      w1.cell? ⟨g, o + k * 3, none⟩ = some (.slice p1 n1 c1) ∧ w1.cell? ⟨g, o + k * 3 + 1, none⟩ = some (.slice p2 n2 c2) ∧ w1.cell? ⟨g, o + k * 3 + 2, none⟩ = some (.slice p3 n3 c3) ∧
      ∀ w2, Below w1.heap.size w1 w2 → Calls Tryd.prog 41 #[.agg #[.slice p1 n1 c1, .slice p2 n2 c2, .slice p3 n3 c3]] w2 fun e w' => e = .returned (.int .i64 (ruleI l[k])) ∧ Below w2.heap.size w2 w') := by
    intro k hk
    obtain ⟨g, o, h1, h2, h3, h4⟩ := hcell k hk
    refine ⟨g, o, h1, h2, h3, fun w1 hb => ?_⟩
    obtain ⟨p1, n1, c1, p2, n2, c2, p3, n3, c3, k1, k2, k3, s1, s2, s3⟩ := h4 w1 hb
    exact ⟨p1, n1, c1, p2, n2, c2, p3, n3, c3, k1, k2, k3, fun w2 hb2 => rule_any l[k] _ _ _ w2 (s1.below hb2) (s2.below hb2) (s3.below hb2) (hf _ (List.getElem_mem hk))⟩
  have HL : Hid (8 < l.length → rulesI l = 2) := rules_large
  have HS : Hid (¬ 8 < l.length → rulesI l = firstE ruleI (l.drop 0)) := rules_small
  clear hcell hf hv
  generalize rulesI l = res at *
  unfold maxLen at hn
  by_cases h8 : 8 < l.length
  · have hI : (8 : Int) < (l.length : Int) := by omega
    have HX : Hid (res = 2) := HL.out h8
    clear HC HL HS
    go_enter Tryd.func19, Tryd.ntmps19
    go_wp2_with fail
    go_ret
    exact ⟨by rw [HX.out]; rfl, Below.refl _ _⟩
  · have hI : ¬ (8 : Int) < (l.length : Int) := by omega
    have HX : Hid (res = firstE ruleI (l.drop 0)) := HS.out h8
    clear HL HS
    go_enter Tryd.func19, Tryd.ntmps19
    go_wp2_with fail
    go_loopw [11] (fun i wr => ∃ k : Nat, k ≤ l.length ∧ i = .int .i64 k ∧ firstE ruleI (l.drop 0) = firstE ruleI (l.drop k) ∧ Below w.heap.size w wr) (fun i _ => l.length - (intOf i).toNat)
    case atStart => exact ⟨0, Nat.zero_le _, rfl, rfl, Below.refl _ _⟩
    case round =>
      obtain ⟨k, hk, rfl, hall, hbel⟩ := hrel
      have HA : Hid (firstE ruleI (l.drop 0) = firstE ruleI (l.drop k)) := hall
      have HB : Hid (Below w.heap.size w wr) := hbel
      clear hall hbel
      by_cases hlt : k < l.length
      · obtain ⟨g, o, rfl, hlc, _, hc0⟩ := HC.out k hlt
        obtain ⟨p1, n1, c1, p2, n2, c2, p3, n3, c3, k1, k2, k3, hcall⟩ := hc0 wr HB.out
        have HS : Hid (ruleI l[k] = 0 → firstE ruleI (l.drop k) = firstE ruleI (l.drop (k + 1))) := fun h => firstE_step hlt h
        have HT : Hid (ruleI l[k] ≠ 0 → firstE ruleI (l.drop k) = ruleI l[k]) := fun h => firstE_hit hlt h
        generalize ruleI l[k] = pr at hcall HS HT
        have HP : Hid (∀ w2, Below wr.heap.size wr w2 → Calls Tryd.prog 41 #[.agg #[.slice p1 n1 c1, .slice p2 n2 c2, .slice p3 n3 c3]] w2 fun e w' => e = .returned (.int .i64 pr) ∧ Below w2.heap.size w2 w') := hcall
        clear hc0 hcall
        have hb2 : Below wr.heap.size wr (wr.alloc (.cells #[.slice p1 n1 c1, .slice p2 n2 c2, .slice p3 n3 c3] 40)) := (Below.refl _ _).alloc (Nat.le_refl _) _
        have HB2 : Hid (Below wr.heap.size wr (wr.alloc (.cells #[.slice p1 n1 c1, .slice p2 n2 c2, .slice p3 n3 c3] 40))) := hb2
        clear hb2
        by_cases hx : pr = 0
        · have hxb : (pr != 0) = false := by simp [hx]
          go_wp2_with fail
          refine Calls.mono (HP.out _ HB2.out) ?_
          rintro e w1 ⟨rfl, b1⟩
          have HB1 : Hid (Below w.heap.size w w1) := HB.out.trans ((HB2.out.trans (b1.mono HB2.out.size)).mono HB.out.size)
          clear b1
          go_wp2_with fail
          go_roundw
          case rel => exact ⟨k + 1, by omega, by go_num, HA.out.trans (HS.out hx), HB1.out⟩
          case measure => simp [intOf]; omega
        · have hxb : (pr != 0) = true := by simpa using hx
          have HX2 : Hid (res = pr) := by show _ = _; rw [HX.out, HA.out, HT.out hx]
          go_wp2_with fail
          refine Calls.mono (HP.out _ HB2.out) ?_
          rintro e w1 ⟨rfl, b1⟩
          have HB1 : Hid (Below w.heap.size w w1) := HB.out.trans ((HB2.out.trans (b1.mono HB2.out.size)).mono HB.out.size)
          clear b1
          go_wp2_with fail
          go_ret
          exact ⟨by rw [HX2.out]; rfl, HB1.out⟩
      · have HX2 : Hid (res = 0) := by show _ = _; rw [HX.out, HA.out, firstE_end (by omega)]
        go_wp2_with fail
        go_ret
        exact ⟨by rw [HX2.out]; rfl, HB.out⟩
end Go.Proofs.YtnjjlnhchfoigabDoor
