/- Contract over this translation: grants.checkRole. -/
import Derived.Test.YtnjjlnhchfoigabDoorGrRules
namespace Go.Proofs.YtnjjlnhchfoigabDoor
open Go.RowKit
set_option linter.unusedVariables false
set_option linter.unusedSimpArgs false
/-- roles, taken apart -/
theorem ros_open {w : World} {v : Value} {l : List Ro} (h : Ros w v l) :
    ∃ p c, v = .slice p l.length c ∧ l.length ≤ maxLen ∧ ∀ k (hk : k < l.length), ∃ g o, p = some ⟨g, o, none⟩ ∧ l.length ≤ c ∧ g < w.heap.size ∧ ∀ w1, Below w.heap.size w w1 → ∃ p3 n3 c3,
      w1.cell? ⟨g, o + k * 3, none⟩ = some (.string (Ba l[k].1)) ∧ w1.cell? ⟨g, o + k * 3 + 1, none⟩ = some (.string (Ba l[k].2.1)) ∧ w1.cell? ⟨g, o + k * 3 + 2, none⟩ = some (.slice p3 n3 c3) ∧ Rls w1 (.slice p3 n3 c3) l[k].2.2 := by
  obtain ⟨p, c, e, hn, hc⟩ := Sq.open roAt_stays h
  refine ⟨p, c, e, hn, fun k hk => ?_⟩
  obtain ⟨g, o, h1, h2, h3, h4⟩ := hc k hk
  refine ⟨g, o, h1, h2, h3, fun w1 hb => ?_⟩
  obtain ⟨k1, k2, d, k3, s3⟩ := h4 w1 hb
  obtain ⟨p3, c3, rfl, _⟩ := Sq.form s3
  exact ⟨p3, _, c3, k1, k2, k3, s3⟩
theorem role_step {ls : List Ro} {r : Ro} {k : Nat} (hk : k < ls.length) (h : (decide (ls[k].1 = r.1) && decide (ls[k].2.1 = r.2.1)) = false) : roleB (ls.drop k) r = roleB (ls.drop (k + 1)) r := by
  unfold roleB
  rw [List.drop_eq_getElem_cons hk, List.any_cons, h]; rfl
theorem role_hit {ls : List Ro} {r : Ro} {k : Nat} (hk : k < ls.length) (h : (decide (ls[k].1 = r.1) && decide (ls[k].2.1 = r.2.1)) = true) : roleB (ls.drop k) r = true := by
  unfold roleB
  rw [List.drop_eq_getElem_cons hk, List.any_cons, h]; rfl
theorem role_end {ls : List Ro} {r : Ro} {k : Nat} (hk : ls.length ≤ k) : roleB (ls.drop k) r = false := by
  rw [List.drop_eq_nil_of_le hk]; rfl
theorem role_place {p : List Ro} {r : Ro} (h : placeI r.1 r.2.1 ≠ 0) : roleI p r = placeI r.1 r.2.1 := orE_l h
theorem role_twice {p : List Ro} {r : Ro} (h : placeI r.1 r.2.1 = 0) (g : roleB p r = true) : roleI p r = 5 := by
  unfold roleI; rw [orE_r h, g]; rfl
theorem role_rules {p : List Ro} {r : Ro} (h : placeI r.1 r.2.1 = 0) (g : roleB p r = false) : roleI p r = rulesI r.2.2 := by
  unfold roleI; rw [orE_r h, g]; rfl
set_option maxRecDepth 100000 in
set_option maxHeartbeats 4000000 in
theorem role_any (r : Ro) (u v : Value) (ls : List Ro) (w : World) (hu : Rls w u r.2.2) (hv : Ros w v ls) (hf : FitO r) :
    Calls Tryd.prog 64 #[.agg #[.string (Ba r.1), .string (Ba r.2.1), u], v] w fun e w' => e = .returned (.int .i64 (roleI ls r)) ∧ Below w.heap.size w w' := by
  obtain ⟨pu, cu, rfl, hnu⟩ := Sq.form hu
  obtain ⟨p, c, rfl, hn, hcell⟩ := ros_open hv
  have HC : Hid (∀ k (hk : k < ls.length), ∃ g o, p = some ⟨g, o, none⟩ ∧ ls.length ≤ c ∧ g < w.heap.size ∧ ∀ w1, Below w.heap.size w w1 → ∃ p3 n3 c3,
      w1.cell? ⟨g, o + k * 3, none⟩ = some (.string (Ba ls[k].1)) ∧ w1.cell? ⟨g, o + k * 3 + 1, none⟩ = some (.string (Ba ls[k].2.1)) ∧ w1.cell? ⟨g, o + k * 3 + 2, none⟩ = some (.slice p3 n3 c3)) := fun k hk => by
    obtain ⟨g, o, h1, h2, h3, h4⟩ := hcell k hk
    refine ⟨g, o, h1, h2, h3, fun w1 hb => ?_⟩
    obtain ⟨p3, n3, c3, k1, k2, k3, _⟩ := h4 w1 hb
    exact ⟨p3, n3, c3, k1, k2, k3⟩
  have HRu : Hid (∀ w1, Below w.heap.size w w1 → Calls Tryd.prog 19 #[.slice pu r.2.2.length cu] w1 fun e w' => e = .returned (.int .i64 (rulesI r.2.2)) ∧ Below w1.heap.size w1 w') := fun w1 hb => rules_any _ r.2.2 w1 (Sq.below rlAt_stays hu hb) hf.2.2
  have HPl : Hid (∀ w1, Calls Tryd.prog 73 #[.string (Ba r.1), .string (Ba r.2.1)] w1 fun e w' => e = .returned (.int .i64 (placeI r.1 r.2.1)) ∧ w' = w1) := fun w1 => place_any r.1 r.2.1 w1 hf.1 hf.2.1
  have HE1 : Hid (placeI r.1 r.2.1 ≠ 0 → roleI ls r = placeI r.1 r.2.1) := role_place
  have HE2 : Hid (placeI r.1 r.2.1 = 0 → roleB (ls.drop 0) r = true → roleI ls r = 5) := role_twice
  have HE3 : Hid (placeI r.1 r.2.1 = 0 → roleB (ls.drop 0) r = false → roleI ls r = rulesI r.2.2) := role_rules
  have HBx : Hid (∀ w1, Below (w.alloc (.cells #[.string (Ba r.1), .string (Ba r.2.1), .slice pu r.2.2.length cu] 59)).heap.size (w.alloc (.cells #[.string (Ba r.1), .string (Ba r.2.1), .slice pu r.2.2.length cu] 59)) w1 →
      w1.cell? ⟨w.heap.size, 0, none⟩ = some (.string (Ba r.1)) ∧ w1.cell? ⟨w.heap.size, 1, none⟩ = some (.string (Ba r.2.1)) ∧ w1.cell? ⟨w.heap.size, 2, none⟩ = some (.slice pu r.2.2.length cu)) := fun w1 h => bx3 h
  have HS0 : Hid (∀ k (hk : k < ls.length), (decide (ls[k].1 = r.1) && decide (ls[k].2.1 = r.2.1)) = false → roleB (ls.drop k) r = roleB (ls.drop (k + 1)) r) := fun k hk h => role_step hk h
  have HT0 : Hid (∀ k (hk : k < ls.length), (decide (ls[k].1 = r.1) && decide (ls[k].2.1 = r.2.1)) = true → roleB (ls.drop k) r = true) := fun k hk h => role_hit hk h
  have HQ1 : Hid (∀ s, ((Ba s).toList == (Ba r.1).toList) = decide (s = r.1)) := fun s => ba_beq s r.1
  have HQ2 : Hid (∀ s, ((Ba s).toList == (Ba r.2.1).toList) = decide (s = r.2.1)) := fun s => ba_beq s r.2.1
  have HEnd : Hid (∀ k, ls.length ≤ k → roleB (ls.drop k) r = false) := fun k hk => role_end hk
  obtain ⟨w0, hw0⟩ : ∃ w0, w0 = w.alloc (.cells #[.string (Ba r.1), .string (Ba r.2.1), .slice pu r.2.2.length cu] 59) := ⟨_, rfl⟩
  have hB0 : Below w.heap.size w w0 := by rw [hw0]; exact (Below.refl _ _).alloc (Nat.le_refl _) _
  have HB0 : Hid (Below w.heap.size w w0) := hB0
  rw [← hw0] at HBx
  have HW0 : Hid (w0 = w.alloc (.cells #[.string (Ba r.1), .string (Ba r.2.1), .slice pu r.2.2.length cu] 59)) := hw0
  obtain ⟨x0, x1, x2⟩ := HBx.out w0 (Below.refl _ _)
  clear hcell hf hv hu hw0 hB0
  obtain ⟨sp, nm, rl⟩ := r
  dsimp only at *
  generalize roleI ls (sp, nm, rl) = res at *
  generalize placeI sp nm = pl at *
  generalize rulesI rl = ru at *
  generalize rl.length = nl at *
  unfold maxLen at hn hnu
  by_cases h1 : pl = 0
  · have hb1 : (pl != 0) = false := by simp [h1]
    have HX2 : Hid (roleB (ls.drop 0) (sp, nm, rl) = true → res = 5) := HE2.out h1
    have HX3 : Hid (roleB (ls.drop 0) (sp, nm, rl) = false → res = ru) := HE3.out h1
    clear HE1 HE2 HE3 h1
    generalize hys : Ba sp = ys at *
    generalize hyn : Ba nm = yn at *
    go_enter Tryd.func64, Tryd.ntmps64
    go_wp2_with fail
    rw [← HW0.out]
    refine Calls.mono (HPl.out _) ?_
    rintro e w1 ⟨rfl, hw1⟩
    obtain rfl : w0 = w1 := hw1.symm
    go_wp2_with fail
    clear x0 x1 x2
    go_loopw [18] (fun i wr => ∃ k : Nat, k ≤ ls.length ∧ i = .int .i64 k ∧ roleB (ls.drop 0) (sp, nm, rl) = roleB (ls.drop k) (sp, nm, rl) ∧ Below w0.heap.size w0 wr) (fun i _ => ls.length - (intOf i).toNat)
    case atStart => exact ⟨0, Nat.zero_le _, rfl, rfl, Below.refl _ _⟩
    case round =>
      obtain ⟨k, hk, rfl, hall, hbel⟩ := hrel
      have HA : Hid (roleB (ls.drop 0) (sp, nm, rl) = roleB (ls.drop k) (sp, nm, rl)) := hall
      have HB : Hid (Below w0.heap.size w0 wr) := hbel
      have HBw : Hid (Below w.heap.size w wr) := HB0.out.trans (hbel.mono HB0.out.size)
      obtain ⟨x0, x1, x2⟩ := HBx.out wr hbel
      clear hall hbel
      by_cases hlt : k < ls.length
      · obtain ⟨g, o, rfl, hlc, hg, hc0⟩ := HC.out k hlt
        obtain ⟨p3, n3, c3, k1, k2, k3⟩ := hc0 wr HBw.out
        have HS := HS0.out k hlt
        have HT := HT0.out k hlt
        have q1 := HQ1.out ls[k].1
        have q2 := HQ2.out ls[k].2.1
        have hBn : Below wr.heap.size wr (wr.alloc (.cells #[.string (Ba ls[k].1), .string (Ba ls[k].2.1), .slice p3 n3 c3] 59)) := (Below.refl _ _).alloc (Nat.le_refl _) _
        have HBn : Hid (Below w0.heap.size w0 (wr.alloc (.cells #[.string (Ba ls[k].1), .string (Ba ls[k].2.1), .slice p3 n3 c3] 59))) := HB.out.trans (hBn.mono HB.out.size)
        obtain ⟨z0, z1, z2⟩ := HBx.out _ HBn.out
        clear hc0 hBn
        generalize ls[k].1 = t1 at *
        generalize ls[k].2.1 = t2 at *
        generalize Ba t1 = y1 at *
        generalize Ba t2 = y2 at *
        by_cases e1 : t1 = sp
        · rw [decide_eq_true e1] at q1 HS HT
          by_cases e2 : t2 = nm
          · rw [decide_eq_true e2] at q2 HT
            have HX4 : Hid (res = 5) := HX2.out (HA.out.trans (HT rfl))
            clear HS HT e1 e2
            go_wp2_with fail
            go_ret
            exact ⟨by rw [HX4.out]; rfl, HB0.out.trans (HBn.out.mono HB0.out.size)⟩
          · rw [decide_eq_false e2] at q2 HS
            have HN : Hid (roleB (ls.drop k) (sp, nm, rl) = roleB (ls.drop (k + 1)) (sp, nm, rl)) := HS rfl
            clear HS HT e1 e2
            go_wp2_with fail
            go_roundw
            case rel => exact ⟨k + 1, by omega, by go_num, HA.out.trans HN.out, HBn.out⟩
            case measure => simp [intOf]; omega
        · rw [decide_eq_false e1] at q1 HS
          have HN : Hid (roleB (ls.drop k) (sp, nm, rl) = roleB (ls.drop (k + 1)) (sp, nm, rl)) := HS rfl
          clear HS HT e1 q2
          go_wp2_with fail
          go_roundw
          case rel => exact ⟨k + 1, by omega, by go_num, HA.out.trans HN.out, HBn.out⟩
          case measure => simp [intOf]; omega
      · have HX4 : Hid (res = ru) := HX3.out (HA.out.trans (HEnd.out k (by omega)))
        go_wp2_with fail
        refine Calls.mono (HRu.out _ HBw.out) ?_
        rintro e w1 ⟨rfl, b1⟩
        have HB1 : Hid (Below w.heap.size w w1) := HBw.out.trans (b1.mono HBw.out.size)
        clear b1
        go_wp2_with fail
        go_ret
        exact ⟨by rw [HX4.out]; rfl, HB1.out⟩
  · have hb1 : (pl != 0) = true := by simpa using h1
    have HX : Hid (res = pl) := HE1.out h1
    clear HE1 HE2 HE3 h1
    generalize Ba sp = ys at *
    generalize Ba nm = yn at *
    go_enter Tryd.func64, Tryd.ntmps64
    go_wp2_with fail
    rw [← HW0.out]
    refine Calls.mono (HPl.out _) ?_
    rintro e w1 ⟨rfl, hw1⟩
    obtain rfl : w0 = w1 := hw1.symm
    go_wp2_with fail
    go_ret
    exact ⟨by rw [HX.out]; rfl, HB0.out⟩
end Go.Proofs.YtnjjlnhchfoigabDoor
