/- Contract over this translation of the document's Allows. -/
import Derived.Test.YtnjjlnhchfoigaaGrHas
import Derived.Test.YtnjjlnhchfoigaaGrAllows
namespace Go.Proofs.Ytnjjlnhchfoigaa
open Go.RowKit
set_option linter.unusedVariables false
set_option linter.unusedSimpArgs false
theorem cell_ltA {W : World} {a : Addr} {v : Value} (h : W.cell? a = some v) : a.block < W.heap.size := by
  rcases Nat.lt_or_ge a.block W.heap.size with h1 | h1
  · exact h1
  · simp [World.cell?, Array.getElem?_eq_none h1] at h
theorem cell_staysA {w w' : World} {a : Addr} {v : Value} (h : w.cell? a = some v) (hb : Below w.heap.size w w') : w'.cell? a = some v := by
  rw [hb.cell (cell_ltA h)]; exact h
set_option maxRecDepth 100000 in
set_option maxHeartbeats 16000000 in
theorem allowsR_any (v : Value) (l : List Rl) (a : Ak) (w : World) (hv : Rls w v l) :
    Calls Try.prog 18 #[v, askV a] w fun e w' => e = .returned (.bool (allB l a)) ∧ Below w.heap.size w w' := by
  obtain ⟨p, c, rfl, hn, hcell⟩ := rls_open hv
  have HC : Hid (∀ k (hk : k < l.length), ∃ g o p1 c1 p2 c2 p3 c3, p = some ⟨g, o, none⟩ ∧ l.length ≤ c ∧ (∀ w1, Below w.heap.size w w1 →
      w1.cell? ⟨g, o + k * 3, none⟩ = some (.slice p1 l[k].1.length c1) ∧ w1.cell? ⟨g, o + k * 3 + 1, none⟩ = some (.slice p2 l[k].2.1.length c2) ∧ w1.cell? ⟨g, o + k * 3 + 2, none⟩ = some (.slice p3 l[k].2.2.length c3)) ∧
      (∀ w2, Below w.heap.size w w2 → ∀ s, Calls Try.prog 41 #[.slice p1 l[k].1.length c1, .string (Ba s)] w2 fun e w' => e = .returned (.bool (decide (s ∈ l[k].1))) ∧ w' = w2) ∧
      (∀ w2, Below w.heap.size w w2 → ∀ s, Calls Try.prog 41 #[.slice p2 l[k].2.1.length c2, .string (Ba s)] w2 fun e w' => e = .returned (.bool (decide (s ∈ l[k].2.1))) ∧ w' = w2) ∧
      (∀ w2, Below w.heap.size w w2 → ∀ s, Calls Try.prog 41 #[.slice p3 l[k].2.2.length c3, .string (Ba s)] w2 fun e w' => e = .returned (.bool (decide (s ∈ l[k].2.2))) ∧ w' = w2) ∧ l[k].2.2.length ≤ maxLen) := by
    intro k hk
    obtain ⟨g, o, h1, h2, h3, h4⟩ := hcell k hk
    obtain ⟨p1, n1, c1, p2, n2, c2, p3, n3, c3, k1, k2, k3, s1, s2, s3⟩ := h4 w (Below.refl _ _)
    obtain ⟨_, _, e1, _⟩ := s1.form
    obtain ⟨_, _, e2, _⟩ := s2.form
    obtain ⟨_, _, e3, hm3⟩ := s3.form
    injection e1 with _ e1 _
    injection e2 with _ e2 _
    injection e3 with _ e3 _
    subst e1 e2 e3
    exact ⟨g, o, p1, c1, p2, c2, p3, c3, h1, h2, fun w1 hb => ⟨cell_staysA k1 hb, cell_staysA k2 hb, cell_staysA k3 hb⟩, fun w2 hb s => hasL_any _ _ s w2 (s1.below hb), fun w2 hb s => hasL_any _ _ s w2 (s2.below hb), fun w2 hb s => hasL_any _ _ s w2 (s3.below hb), hm3⟩
  have HX : Hid (allB l a = allB (l.drop 0) a) := all_start l a
  have HS0 : Hid (∀ k (hk : k < l.length), alB l[k] a = false → allB (l.drop k) a = allB (l.drop (k + 1)) a) := fun k hk h => all_step hk h
  have HT0 : Hid (∀ k (hk : k < l.length), alB l[k] a = true → allB (l.drop k) a = true) := fun k hk h => all_hit hk h
  have HEnd : Hid (∀ k, l.length ≤ k → allB (l.drop k) a = false) := fun k hk => all_end hk
  clear hcell hv
  generalize allB l a = res at *
  obtain ⟨vb, kd, sp, nm⟩ := a
  dsimp only [askV] at *
  have HBx : Hid (∀ w1, Below (w.alloc (.cells #[.string (Ba vb), .string (Ba kd), .string (Ba sp), .string (Ba nm)] 27)).heap.size (w.alloc (.cells #[.string (Ba vb), .string (Ba kd), .string (Ba sp), .string (Ba nm)] 27)) w1 →
      w1.cell? ⟨w.heap.size, 0, none⟩ = some (.string (Ba vb)) ∧ w1.cell? ⟨w.heap.size, 1, none⟩ = some (.string (Ba kd)) ∧ w1.cell? ⟨w.heap.size, 2, none⟩ = some (.string (Ba sp)) ∧ w1.cell? ⟨w.heap.size, 3, none⟩ = some (.string (Ba nm))) := fun w1 h => bx4 h
  obtain ⟨w0, hw0⟩ : ∃ w0, w0 = w.alloc (.cells #[.string (Ba vb), .string (Ba kd), .string (Ba sp), .string (Ba nm)] 27) := ⟨_, rfl⟩
  have hB0 : Below w.heap.size w w0 := by rw [hw0]; exact (Below.refl _ _).alloc (Nat.le_refl _) _
  have HB0 : Hid (Below w.heap.size w w0) := hB0
  rw [← hw0] at HBx
  have HW0 : Hid (w0 = w.alloc (.cells #[.string (Ba vb), .string (Ba kd), .string (Ba sp), .string (Ba nm)] 27)) := hw0
  clear hw0 hB0
  unfold maxLen at hn
  go_enter Try.func18, Try.ntmps18
  go_wp2_with fail
  rw [← HW0.out]
  go_loopw [12] (fun i wr => ∃ k : Nat, k ≤ l.length ∧ i = .int .i64 k ∧ res = allB (l.drop k) (vb, kd, sp, nm) ∧ Below w0.heap.size w0 wr) (fun i _ => l.length - (intOf i).toNat)
  case atStart => exact ⟨0, Nat.zero_le _, rfl, HX.out, Below.refl _ _⟩
  case round =>
    obtain ⟨k, hk, rfl, hall, hbel⟩ := hrel
    have HA : Hid (res = allB (l.drop k) (vb, kd, sp, nm)) := hall
    have HB : Hid (Below w0.heap.size w0 wr) := hbel
    have HBw : Hid (Below w.heap.size w wr) := HB0.out.trans (hbel.mono HB0.out.size)
    clear hall hbel
    by_cases hlt : k < l.length
    · obtain ⟨g, o, p1, c1, p2, c2, p3, c3, rfl, hlc, hc0, hV, hK, hM, hm3⟩ := HC.out k hlt
      obtain ⟨i1, i2, i3⟩ := hc0 wr HBw.out
      have HS := HS0.out k hlt
      have HT := HT0.out k hlt
      have hal : alB l[k] (vb, kd, sp, nm) = ((decide (vb ∈ l[k].1) || decide (([42] : Bs) ∈ l[k].1)) && ((decide (kd ∈ l[k].2.1) || decide (([42] : Bs) ∈ l[k].2.1)) && (decide (l[k].2.2.length = 0) || (!decide (nm = []) && decide (nm ∈ l[k].2.2))))) := rfl
      have hq := ba_is nm []
      have hV1 := fun w2 hb => hV w2 hb vb
      have hV2 := fun w2 hb => hV w2 hb [42]
      have hK1 := fun w2 hb => hK w2 hb kd
      have hK2 := fun w2 hb => hK w2 hb [42]
      have hM1 := fun w2 hb => hM w2 hb nm
      clear hc0 hV hK hM
      have HBn0 : Hid (Below wr.heap.size wr (wr.alloc (.cells #[.slice p1 l[k].1.length c1, .slice p2 l[k].2.1.length c2, .slice p3 l[k].2.2.length c3] 42))) := (Below.refl _ _).alloc (Nat.le_refl _) _
      obtain ⟨wn, hwn⟩ : ∃ wn, wn = wr.alloc (.cells #[.slice p1 l[k].1.length c1, .slice p2 l[k].2.1.length c2, .slice p3 l[k].2.2.length c3] 42) := ⟨_, rfl⟩
      have HWn : Hid (wn = wr.alloc (.cells #[.slice p1 l[k].1.length c1, .slice p2 l[k].2.1.length c2, .slice p3 l[k].2.2.length c3] 42)) := hwn
      have HXr : Hid (wn.cell? ⟨wr.heap.size, 0, none⟩ = some (.slice p1 l[k].1.length c1) ∧ wn.cell? ⟨wr.heap.size, 1, none⟩ = some (.slice p2 l[k].2.1.length c2) ∧ wn.cell? ⟨wr.heap.size, 2, none⟩ = some (.slice p3 l[k].2.2.length c3)) := by rw [hwn]; exact bx3 (Below.refl _ _)
      rw [← hwn] at HBn0
      have HBm : Hid (Below w0.heap.size w0 wn) := HB.out.trans (HBn0.out.mono HB.out.size)
      have HBmw : Hid (Below w.heap.size w wn) := HB0.out.trans (HBm.out.mono HB0.out.size)
      have HV1 : Hid (_) := hV1 wn HBmw.out
      have HV2 : Hid (_) := hV2 wn HBmw.out
      have HK1 : Hid (_) := hK1 wn HBmw.out
      have HK2 : Hid (_) := hK2 wn HBmw.out
      have HM1 : Hid (_) := hM1 wn HBmw.out
      obtain ⟨z0, z1, z2, z3⟩ := hwn ▸ HBx.out wn HBm.out
      clear hwn hV1 hV2 hK1 hK2 hM1
      generalize alB l[k] (vb, kd, sp, nm) = pr at *
      generalize decide (vb ∈ l[k].1) = b1 at *
      generalize decide (([42] : Bs) ∈ l[k].1) = b2 at *
      generalize decide (kd ∈ l[k].2.1) = b3 at *
      generalize decide (([42] : Bs) ∈ l[k].2.1) = b4 at *
      generalize decide (nm ∈ l[k].2.2) = b6 at *
      generalize l[k].1.length = n1 at *
      generalize l[k].2.1.length = n2 at *
      generalize l[k].2.2.length = n3 at *
      generalize decide (nm = []) = b5 at *
      generalize hyv : Ba vb = yv at *
      generalize hyk : Ba kd = yk at *
      generalize hym : Ba nm = ym at *
      generalize hys : Ba sp = ys at *
      unfold maxLen at hm3
      have HAl : Hid (pr = ((b1 || b2) && ((b3 || b4) && (decide (n3 = 0) || (!b5 && b6))))) := hal
      clear hal hyv hyk hym hys
      cases b1 with
      | true =>
        cases b3 with
        | true =>
          by_cases hz : n3 = 0
          · have y3 : ((n3 : Int) == 0) = true := by simp; omega
            have HP : Hid (pr = true) := by show _ = _; rw [HAl.out]; simp [hz]
            have HX2 : Hid (res = true) := HA.out.trans (HT HP.out)
            clear HAl HS HT HP hz
            go_wp2_with fail
            rw [← HWn.out]
            refine Calls.mono HV1.out ?_
            rintro e w2 ⟨rfl, hw2⟩
            obtain rfl : wn = w2 := hw2.symm
            clear z0 z1 z2 z3 i1 i2 i3
            obtain ⟨z0, z1, z2, z3⟩ := HBx.out wn HBm.out
            obtain ⟨i1, i2, i3⟩ := HXr.out
            go_wp2_with fail
            refine Calls.mono HK1.out ?_
            rintro e w2 ⟨rfl, hw2⟩
            obtain rfl : wn = w2 := hw2.symm
            go_wp2_with fail
            go_ret
            exact ⟨by rw [HX2.out]; rfl, HBmw.out⟩
          · have y3 : ((n3 : Int) == 0) = false := by simp; omega
            cases b5 with
            | true =>
              have hq2 : ym.toList.isEmpty = true := by rw [List.isEmpty_iff]; exact eq_of_beq hq
              clear hq
              have HP : Hid (pr = false) := by show _ = _; rw [HAl.out]; simp [hz]
              have HN : Hid (res = allB (l.drop (k + 1)) (vb, kd, sp, nm)) := HA.out.trans (HS HP.out)
              clear HAl HS HT HP hz
              go_wp2_with fail
              rw [← HWn.out]
              refine Calls.mono HV1.out ?_
              rintro e w2 ⟨rfl, hw2⟩
              obtain rfl : wn = w2 := hw2.symm
              clear z0 z1 z2 z3 i1 i2 i3
              obtain ⟨z0, z1, z2, z3⟩ := HBx.out wn HBm.out
              obtain ⟨i1, i2, i3⟩ := HXr.out
              go_wp2_with fail
              refine Calls.mono HK1.out ?_
              rintro e w2 ⟨rfl, hw2⟩
              obtain rfl : wn = w2 := hw2.symm
              go_wp2_with fail
              go_roundw
              case rel => exact ⟨k + 1, by omega, by go_num, HN.out, HBm.out⟩
              case measure => simp [intOf]; omega
            | false =>
              have hq2 : ym.toList.isEmpty = false := by
                cases hy : ym.toList.isEmpty with
                | false => rfl
                | true => rw [List.isEmpty_iff.1 hy] at hq; cases hq
              clear hq
              cases b6 with
              | true =>
                have HP : Hid (pr = true) := by show _ = _; rw [HAl.out]; simp [hz]
                have HX2 : Hid (res = true) := HA.out.trans (HT HP.out)
                clear HAl HS HT HP hz
                go_wp2_with fail
                rw [← HWn.out]
                refine Calls.mono HV1.out ?_
                rintro e w2 ⟨rfl, hw2⟩
                obtain rfl : wn = w2 := hw2.symm
                clear z0 z1 z2 z3 i1 i2 i3
                obtain ⟨z0, z1, z2, z3⟩ := HBx.out wn HBm.out
                obtain ⟨i1, i2, i3⟩ := HXr.out
                go_wp2_with fail
                refine Calls.mono HK1.out ?_
                rintro e w2 ⟨rfl, hw2⟩
                obtain rfl : wn = w2 := hw2.symm
                go_wp2_with fail
                refine Calls.mono HM1.out ?_
                rintro e w2 ⟨rfl, hw2⟩
                obtain rfl : wn = w2 := hw2.symm
                go_wp2_with fail
                go_ret
                exact ⟨by rw [HX2.out]; rfl, HBmw.out⟩
              | false =>
                have HP : Hid (pr = false) := by show _ = _; rw [HAl.out]; simp [hz]
                have HN : Hid (res = allB (l.drop (k + 1)) (vb, kd, sp, nm)) := HA.out.trans (HS HP.out)
                clear HAl HS HT HP hz
                go_wp2_with fail
                rw [← HWn.out]
                refine Calls.mono HV1.out ?_
                rintro e w2 ⟨rfl, hw2⟩
                obtain rfl : wn = w2 := hw2.symm
                clear z0 z1 z2 z3 i1 i2 i3
                obtain ⟨z0, z1, z2, z3⟩ := HBx.out wn HBm.out
                obtain ⟨i1, i2, i3⟩ := HXr.out
                go_wp2_with fail
                refine Calls.mono HK1.out ?_
                rintro e w2 ⟨rfl, hw2⟩
                obtain rfl : wn = w2 := hw2.symm
                go_wp2_with fail
                refine Calls.mono HM1.out ?_
                rintro e w2 ⟨rfl, hw2⟩
                obtain rfl : wn = w2 := hw2.symm
                go_wp2_with fail
                go_roundw
                case rel => exact ⟨k + 1, by omega, by go_num, HN.out, HBm.out⟩
                case measure => simp [intOf]; omega
        | false =>
          cases b4 with
          | true =>
            by_cases hz : n3 = 0
            · have y3 : ((n3 : Int) == 0) = true := by simp; omega
              have HP : Hid (pr = true) := by show _ = _; rw [HAl.out]; simp [hz]
              have HX2 : Hid (res = true) := HA.out.trans (HT HP.out)
              clear HAl HS HT HP hz
              go_wp2_with fail
              rw [← HWn.out]
              refine Calls.mono HV1.out ?_
              rintro e w2 ⟨rfl, hw2⟩
              obtain rfl : wn = w2 := hw2.symm
              clear z0 z1 z2 z3 i1 i2 i3
              obtain ⟨z0, z1, z2, z3⟩ := HBx.out wn HBm.out
              obtain ⟨i1, i2, i3⟩ := HXr.out
              go_wp2_with fail
              refine Calls.mono HK1.out ?_
              rintro e w2 ⟨rfl, hw2⟩
              obtain rfl : wn = w2 := hw2.symm
              go_wp2_with fail
              refine Calls.mono HK2.out ?_
              rintro e w2 ⟨rfl, hw2⟩
              obtain rfl : wn = w2 := hw2.symm
              go_wp2_with fail
              go_ret
              exact ⟨by rw [HX2.out]; rfl, HBmw.out⟩
            · have y3 : ((n3 : Int) == 0) = false := by simp; omega
              cases b5 with
              | true =>
                have hq2 : ym.toList.isEmpty = true := by rw [List.isEmpty_iff]; exact eq_of_beq hq
                clear hq
                have HP : Hid (pr = false) := by show _ = _; rw [HAl.out]; simp [hz]
                have HN : Hid (res = allB (l.drop (k + 1)) (vb, kd, sp, nm)) := HA.out.trans (HS HP.out)
                clear HAl HS HT HP hz
                go_wp2_with fail
                rw [← HWn.out]
                refine Calls.mono HV1.out ?_
                rintro e w2 ⟨rfl, hw2⟩
                obtain rfl : wn = w2 := hw2.symm
                clear z0 z1 z2 z3 i1 i2 i3
                obtain ⟨z0, z1, z2, z3⟩ := HBx.out wn HBm.out
                obtain ⟨i1, i2, i3⟩ := HXr.out
                go_wp2_with fail
                refine Calls.mono HK1.out ?_
                rintro e w2 ⟨rfl, hw2⟩
                obtain rfl : wn = w2 := hw2.symm
                go_wp2_with fail
                refine Calls.mono HK2.out ?_
                rintro e w2 ⟨rfl, hw2⟩
                obtain rfl : wn = w2 := hw2.symm
                go_wp2_with fail
                go_roundw
                case rel => exact ⟨k + 1, by omega, by go_num, HN.out, HBm.out⟩
                case measure => simp [intOf]; omega
              | false =>
                have hq2 : ym.toList.isEmpty = false := by
                  cases hy : ym.toList.isEmpty with
                  | false => rfl
                  | true => rw [List.isEmpty_iff.1 hy] at hq; cases hq
                clear hq
                cases b6 with
                | true =>
                  have HP : Hid (pr = true) := by show _ = _; rw [HAl.out]; simp [hz]
                  have HX2 : Hid (res = true) := HA.out.trans (HT HP.out)
                  clear HAl HS HT HP hz
                  go_wp2_with fail
                  rw [← HWn.out]
                  refine Calls.mono HV1.out ?_
                  rintro e w2 ⟨rfl, hw2⟩
                  obtain rfl : wn = w2 := hw2.symm
                  clear z0 z1 z2 z3 i1 i2 i3
                  obtain ⟨z0, z1, z2, z3⟩ := HBx.out wn HBm.out
                  obtain ⟨i1, i2, i3⟩ := HXr.out
                  go_wp2_with fail
                  refine Calls.mono HK1.out ?_
                  rintro e w2 ⟨rfl, hw2⟩
                  obtain rfl : wn = w2 := hw2.symm
                  go_wp2_with fail
                  refine Calls.mono HK2.out ?_
                  rintro e w2 ⟨rfl, hw2⟩
                  obtain rfl : wn = w2 := hw2.symm
                  go_wp2_with fail
                  refine Calls.mono HM1.out ?_
                  rintro e w2 ⟨rfl, hw2⟩
                  obtain rfl : wn = w2 := hw2.symm
                  go_wp2_with fail
                  go_ret
                  exact ⟨by rw [HX2.out]; rfl, HBmw.out⟩
                | false =>
                  have HP : Hid (pr = false) := by show _ = _; rw [HAl.out]; simp [hz]
                  have HN : Hid (res = allB (l.drop (k + 1)) (vb, kd, sp, nm)) := HA.out.trans (HS HP.out)
                  clear HAl HS HT HP hz
                  go_wp2_with fail
                  rw [← HWn.out]
                  refine Calls.mono HV1.out ?_
                  rintro e w2 ⟨rfl, hw2⟩
                  obtain rfl : wn = w2 := hw2.symm
                  clear z0 z1 z2 z3 i1 i2 i3
                  obtain ⟨z0, z1, z2, z3⟩ := HBx.out wn HBm.out
                  obtain ⟨i1, i2, i3⟩ := HXr.out
                  go_wp2_with fail
                  refine Calls.mono HK1.out ?_
                  rintro e w2 ⟨rfl, hw2⟩
                  obtain rfl : wn = w2 := hw2.symm
                  go_wp2_with fail
                  refine Calls.mono HK2.out ?_
                  rintro e w2 ⟨rfl, hw2⟩
                  obtain rfl : wn = w2 := hw2.symm
                  go_wp2_with fail
                  refine Calls.mono HM1.out ?_
                  rintro e w2 ⟨rfl, hw2⟩
                  obtain rfl : wn = w2 := hw2.symm
                  go_wp2_with fail
                  go_roundw
                  case rel => exact ⟨k + 1, by omega, by go_num, HN.out, HBm.out⟩
                  case measure => simp [intOf]; omega
          | false =>
            by_cases hz : n3 = 0
            · have y3 : ((n3 : Int) == 0) = true := by simp; omega
              have HP : Hid (pr = false) := by show _ = _; rw [HAl.out]; simp [hz]
              have HN : Hid (res = allB (l.drop (k + 1)) (vb, kd, sp, nm)) := HA.out.trans (HS HP.out)
              clear HAl HS HT HP hz
              go_wp2_with fail
              rw [← HWn.out]
              refine Calls.mono HV1.out ?_
              rintro e w2 ⟨rfl, hw2⟩
              obtain rfl : wn = w2 := hw2.symm
              clear z0 z1 z2 z3 i1 i2 i3
              obtain ⟨z0, z1, z2, z3⟩ := HBx.out wn HBm.out
              obtain ⟨i1, i2, i3⟩ := HXr.out
              go_wp2_with fail
              refine Calls.mono HK1.out ?_
              rintro e w2 ⟨rfl, hw2⟩
              obtain rfl : wn = w2 := hw2.symm
              go_wp2_with fail
              refine Calls.mono HK2.out ?_
              rintro e w2 ⟨rfl, hw2⟩
              obtain rfl : wn = w2 := hw2.symm
              go_wp2_with fail
              go_roundw
              case rel => exact ⟨k + 1, by omega, by go_num, HN.out, HBm.out⟩
              case measure => simp [intOf]; omega
            · have y3 : ((n3 : Int) == 0) = false := by simp; omega
              cases b5 with
              | true =>
                have hq2 : ym.toList.isEmpty = true := by rw [List.isEmpty_iff]; exact eq_of_beq hq
                clear hq
                have HP : Hid (pr = false) := by show _ = _; rw [HAl.out]; simp [hz]
                have HN : Hid (res = allB (l.drop (k + 1)) (vb, kd, sp, nm)) := HA.out.trans (HS HP.out)
                clear HAl HS HT HP hz
                go_wp2_with fail
                rw [← HWn.out]
                refine Calls.mono HV1.out ?_
                rintro e w2 ⟨rfl, hw2⟩
                obtain rfl : wn = w2 := hw2.symm
                clear z0 z1 z2 z3 i1 i2 i3
                obtain ⟨z0, z1, z2, z3⟩ := HBx.out wn HBm.out
                obtain ⟨i1, i2, i3⟩ := HXr.out
                go_wp2_with fail
                refine Calls.mono HK1.out ?_
                rintro e w2 ⟨rfl, hw2⟩
                obtain rfl : wn = w2 := hw2.symm
                go_wp2_with fail
                refine Calls.mono HK2.out ?_
                rintro e w2 ⟨rfl, hw2⟩
                obtain rfl : wn = w2 := hw2.symm
                go_wp2_with fail
                go_roundw
                case rel => exact ⟨k + 1, by omega, by go_num, HN.out, HBm.out⟩
                case measure => simp [intOf]; omega
              | false =>
                have hq2 : ym.toList.isEmpty = false := by
                  cases hy : ym.toList.isEmpty with
                  | false => rfl
                  | true => rw [List.isEmpty_iff.1 hy] at hq; cases hq
                clear hq
                cases b6 with
                | true =>
                  have HP : Hid (pr = false) := by show _ = _; rw [HAl.out]; simp [hz]
                  have HN : Hid (res = allB (l.drop (k + 1)) (vb, kd, sp, nm)) := HA.out.trans (HS HP.out)
                  clear HAl HS HT HP hz
                  go_wp2_with fail
                  rw [← HWn.out]
                  refine Calls.mono HV1.out ?_
                  rintro e w2 ⟨rfl, hw2⟩
                  obtain rfl : wn = w2 := hw2.symm
                  clear z0 z1 z2 z3 i1 i2 i3
                  obtain ⟨z0, z1, z2, z3⟩ := HBx.out wn HBm.out
                  obtain ⟨i1, i2, i3⟩ := HXr.out
                  go_wp2_with fail
                  refine Calls.mono HK1.out ?_
                  rintro e w2 ⟨rfl, hw2⟩
                  obtain rfl : wn = w2 := hw2.symm
                  go_wp2_with fail
                  refine Calls.mono HK2.out ?_
                  rintro e w2 ⟨rfl, hw2⟩
                  obtain rfl : wn = w2 := hw2.symm
                  go_wp2_with fail
                  refine Calls.mono HM1.out ?_
                  rintro e w2 ⟨rfl, hw2⟩
                  obtain rfl : wn = w2 := hw2.symm
                  go_wp2_with fail
                  go_roundw
                  case rel => exact ⟨k + 1, by omega, by go_num, HN.out, HBm.out⟩
                  case measure => simp [intOf]; omega
                | false =>
                  have HP : Hid (pr = false) := by show _ = _; rw [HAl.out]; simp [hz]
                  have HN : Hid (res = allB (l.drop (k + 1)) (vb, kd, sp, nm)) := HA.out.trans (HS HP.out)
                  clear HAl HS HT HP hz
                  go_wp2_with fail
                  rw [← HWn.out]
                  refine Calls.mono HV1.out ?_
                  rintro e w2 ⟨rfl, hw2⟩
                  obtain rfl : wn = w2 := hw2.symm
                  clear z0 z1 z2 z3 i1 i2 i3
                  obtain ⟨z0, z1, z2, z3⟩ := HBx.out wn HBm.out
                  obtain ⟨i1, i2, i3⟩ := HXr.out
                  go_wp2_with fail
                  refine Calls.mono HK1.out ?_
                  rintro e w2 ⟨rfl, hw2⟩
                  obtain rfl : wn = w2 := hw2.symm
                  go_wp2_with fail
                  refine Calls.mono HK2.out ?_
                  rintro e w2 ⟨rfl, hw2⟩
                  obtain rfl : wn = w2 := hw2.symm
                  go_wp2_with fail
                  refine Calls.mono HM1.out ?_
                  rintro e w2 ⟨rfl, hw2⟩
                  obtain rfl : wn = w2 := hw2.symm
                  go_wp2_with fail
                  go_roundw
                  case rel => exact ⟨k + 1, by omega, by go_num, HN.out, HBm.out⟩
                  case measure => simp [intOf]; omega
      | false =>
        cases b2 with
        | true =>
          cases b3 with
          | true =>
            by_cases hz : n3 = 0
            · have y3 : ((n3 : Int) == 0) = true := by simp; omega
              have HP : Hid (pr = true) := by show _ = _; rw [HAl.out]; simp [hz]
              have HX2 : Hid (res = true) := HA.out.trans (HT HP.out)
              clear HAl HS HT HP hz
              go_wp2_with fail
              rw [← HWn.out]
              refine Calls.mono HV1.out ?_
              rintro e w2 ⟨rfl, hw2⟩
              obtain rfl : wn = w2 := hw2.symm
              clear z0 z1 z2 z3 i1 i2 i3
              obtain ⟨z0, z1, z2, z3⟩ := HBx.out wn HBm.out
              obtain ⟨i1, i2, i3⟩ := HXr.out
              go_wp2_with fail
              refine Calls.mono HV2.out ?_
              rintro e w2 ⟨rfl, hw2⟩
              obtain rfl : wn = w2 := hw2.symm
              go_wp2_with fail
              refine Calls.mono HK1.out ?_
              rintro e w2 ⟨rfl, hw2⟩
              obtain rfl : wn = w2 := hw2.symm
              go_wp2_with fail
              go_ret
              exact ⟨by rw [HX2.out]; rfl, HBmw.out⟩
            · have y3 : ((n3 : Int) == 0) = false := by simp; omega
              cases b5 with
              | true =>
                have hq2 : ym.toList.isEmpty = true := by rw [List.isEmpty_iff]; exact eq_of_beq hq
                clear hq
                have HP : Hid (pr = false) := by show _ = _; rw [HAl.out]; simp [hz]
                have HN : Hid (res = allB (l.drop (k + 1)) (vb, kd, sp, nm)) := HA.out.trans (HS HP.out)
                clear HAl HS HT HP hz
                go_wp2_with fail
                rw [← HWn.out]
                refine Calls.mono HV1.out ?_
                rintro e w2 ⟨rfl, hw2⟩
                obtain rfl : wn = w2 := hw2.symm
                clear z0 z1 z2 z3 i1 i2 i3
                obtain ⟨z0, z1, z2, z3⟩ := HBx.out wn HBm.out
                obtain ⟨i1, i2, i3⟩ := HXr.out
                go_wp2_with fail
                refine Calls.mono HV2.out ?_
                rintro e w2 ⟨rfl, hw2⟩
                obtain rfl : wn = w2 := hw2.symm
                go_wp2_with fail
                refine Calls.mono HK1.out ?_
                rintro e w2 ⟨rfl, hw2⟩
                obtain rfl : wn = w2 := hw2.symm
                go_wp2_with fail
                go_roundw
                case rel => exact ⟨k + 1, by omega, by go_num, HN.out, HBm.out⟩
                case measure => simp [intOf]; omega
              | false =>
                have hq2 : ym.toList.isEmpty = false := by
                  cases hy : ym.toList.isEmpty with
                  | false => rfl
                  | true => rw [List.isEmpty_iff.1 hy] at hq; cases hq
                clear hq
                cases b6 with
                | true =>
                  have HP : Hid (pr = true) := by show _ = _; rw [HAl.out]; simp [hz]
                  have HX2 : Hid (res = true) := HA.out.trans (HT HP.out)
                  clear HAl HS HT HP hz
                  go_wp2_with fail
                  rw [← HWn.out]
                  refine Calls.mono HV1.out ?_
                  rintro e w2 ⟨rfl, hw2⟩
                  obtain rfl : wn = w2 := hw2.symm
                  clear z0 z1 z2 z3 i1 i2 i3
                  obtain ⟨z0, z1, z2, z3⟩ := HBx.out wn HBm.out
                  obtain ⟨i1, i2, i3⟩ := HXr.out
                  go_wp2_with fail
                  refine Calls.mono HV2.out ?_
                  rintro e w2 ⟨rfl, hw2⟩
                  obtain rfl : wn = w2 := hw2.symm
                  go_wp2_with fail
                  refine Calls.mono HK1.out ?_
                  rintro e w2 ⟨rfl, hw2⟩
                  obtain rfl : wn = w2 := hw2.symm
                  go_wp2_with fail
                  refine Calls.mono HM1.out ?_
                  rintro e w2 ⟨rfl, hw2⟩
                  obtain rfl : wn = w2 := hw2.symm
                  go_wp2_with fail
                  go_ret
                  exact ⟨by rw [HX2.out]; rfl, HBmw.out⟩
                | false =>
                  have HP : Hid (pr = false) := by show _ = _; rw [HAl.out]; simp [hz]
                  have HN : Hid (res = allB (l.drop (k + 1)) (vb, kd, sp, nm)) := HA.out.trans (HS HP.out)
                  clear HAl HS HT HP hz
                  go_wp2_with fail
                  rw [← HWn.out]
                  refine Calls.mono HV1.out ?_
                  rintro e w2 ⟨rfl, hw2⟩
                  obtain rfl : wn = w2 := hw2.symm
                  clear z0 z1 z2 z3 i1 i2 i3
                  obtain ⟨z0, z1, z2, z3⟩ := HBx.out wn HBm.out
                  obtain ⟨i1, i2, i3⟩ := HXr.out
                  go_wp2_with fail
                  refine Calls.mono HV2.out ?_
                  rintro e w2 ⟨rfl, hw2⟩
                  obtain rfl : wn = w2 := hw2.symm
                  go_wp2_with fail
                  refine Calls.mono HK1.out ?_
                  rintro e w2 ⟨rfl, hw2⟩
                  obtain rfl : wn = w2 := hw2.symm
                  go_wp2_with fail
                  refine Calls.mono HM1.out ?_
                  rintro e w2 ⟨rfl, hw2⟩
                  obtain rfl : wn = w2 := hw2.symm
                  go_wp2_with fail
                  go_roundw
                  case rel => exact ⟨k + 1, by omega, by go_num, HN.out, HBm.out⟩
                  case measure => simp [intOf]; omega
          | false =>
            cases b4 with
            | true =>
              by_cases hz : n3 = 0
              · have y3 : ((n3 : Int) == 0) = true := by simp; omega
                have HP : Hid (pr = true) := by show _ = _; rw [HAl.out]; simp [hz]
                have HX2 : Hid (res = true) := HA.out.trans (HT HP.out)
                clear HAl HS HT HP hz
                go_wp2_with fail
                rw [← HWn.out]
                refine Calls.mono HV1.out ?_
                rintro e w2 ⟨rfl, hw2⟩
                obtain rfl : wn = w2 := hw2.symm
                clear z0 z1 z2 z3 i1 i2 i3
                obtain ⟨z0, z1, z2, z3⟩ := HBx.out wn HBm.out
                obtain ⟨i1, i2, i3⟩ := HXr.out
                go_wp2_with fail
                refine Calls.mono HV2.out ?_
                rintro e w2 ⟨rfl, hw2⟩
                obtain rfl : wn = w2 := hw2.symm
                go_wp2_with fail
                refine Calls.mono HK1.out ?_
                rintro e w2 ⟨rfl, hw2⟩
                obtain rfl : wn = w2 := hw2.symm
                go_wp2_with fail
                refine Calls.mono HK2.out ?_
                rintro e w2 ⟨rfl, hw2⟩
                obtain rfl : wn = w2 := hw2.symm
                go_wp2_with fail
                go_ret
                exact ⟨by rw [HX2.out]; rfl, HBmw.out⟩
              · have y3 : ((n3 : Int) == 0) = false := by simp; omega
                cases b5 with
                | true =>
                  have hq2 : ym.toList.isEmpty = true := by rw [List.isEmpty_iff]; exact eq_of_beq hq
                  clear hq
                  have HP : Hid (pr = false) := by show _ = _; rw [HAl.out]; simp [hz]
                  have HN : Hid (res = allB (l.drop (k + 1)) (vb, kd, sp, nm)) := HA.out.trans (HS HP.out)
                  clear HAl HS HT HP hz
                  go_wp2_with fail
                  rw [← HWn.out]
                  refine Calls.mono HV1.out ?_
                  rintro e w2 ⟨rfl, hw2⟩
                  obtain rfl : wn = w2 := hw2.symm
                  clear z0 z1 z2 z3 i1 i2 i3
                  obtain ⟨z0, z1, z2, z3⟩ := HBx.out wn HBm.out
                  obtain ⟨i1, i2, i3⟩ := HXr.out
                  go_wp2_with fail
                  refine Calls.mono HV2.out ?_
                  rintro e w2 ⟨rfl, hw2⟩
                  obtain rfl : wn = w2 := hw2.symm
                  go_wp2_with fail
                  refine Calls.mono HK1.out ?_
                  rintro e w2 ⟨rfl, hw2⟩
                  obtain rfl : wn = w2 := hw2.symm
                  go_wp2_with fail
                  refine Calls.mono HK2.out ?_
                  rintro e w2 ⟨rfl, hw2⟩
                  obtain rfl : wn = w2 := hw2.symm
                  go_wp2_with fail
                  go_roundw
                  case rel => exact ⟨k + 1, by omega, by go_num, HN.out, HBm.out⟩
                  case measure => simp [intOf]; omega
                | false =>
                  have hq2 : ym.toList.isEmpty = false := by
                    cases hy : ym.toList.isEmpty with
                    | false => rfl
                    | true => rw [List.isEmpty_iff.1 hy] at hq; cases hq
                  clear hq
                  cases b6 with
                  | true =>
                    have HP : Hid (pr = true) := by show _ = _; rw [HAl.out]; simp [hz]
                    have HX2 : Hid (res = true) := HA.out.trans (HT HP.out)
                    clear HAl HS HT HP hz
                    go_wp2_with fail
                    rw [← HWn.out]
                    refine Calls.mono HV1.out ?_
                    rintro e w2 ⟨rfl, hw2⟩
                    obtain rfl : wn = w2 := hw2.symm
                    clear z0 z1 z2 z3 i1 i2 i3
                    obtain ⟨z0, z1, z2, z3⟩ := HBx.out wn HBm.out
                    obtain ⟨i1, i2, i3⟩ := HXr.out
                    go_wp2_with fail
                    refine Calls.mono HV2.out ?_
                    rintro e w2 ⟨rfl, hw2⟩
                    obtain rfl : wn = w2 := hw2.symm
                    go_wp2_with fail
                    refine Calls.mono HK1.out ?_
                    rintro e w2 ⟨rfl, hw2⟩
                    obtain rfl : wn = w2 := hw2.symm
                    go_wp2_with fail
                    refine Calls.mono HK2.out ?_
                    rintro e w2 ⟨rfl, hw2⟩
                    obtain rfl : wn = w2 := hw2.symm
                    go_wp2_with fail
                    refine Calls.mono HM1.out ?_
                    rintro e w2 ⟨rfl, hw2⟩
                    obtain rfl : wn = w2 := hw2.symm
                    go_wp2_with fail
                    go_ret
                    exact ⟨by rw [HX2.out]; rfl, HBmw.out⟩
                  | false =>
                    have HP : Hid (pr = false) := by show _ = _; rw [HAl.out]; simp [hz]
                    have HN : Hid (res = allB (l.drop (k + 1)) (vb, kd, sp, nm)) := HA.out.trans (HS HP.out)
                    clear HAl HS HT HP hz
                    go_wp2_with fail
                    rw [← HWn.out]
                    refine Calls.mono HV1.out ?_
                    rintro e w2 ⟨rfl, hw2⟩
                    obtain rfl : wn = w2 := hw2.symm
                    clear z0 z1 z2 z3 i1 i2 i3
                    obtain ⟨z0, z1, z2, z3⟩ := HBx.out wn HBm.out
                    obtain ⟨i1, i2, i3⟩ := HXr.out
                    go_wp2_with fail
                    refine Calls.mono HV2.out ?_
                    rintro e w2 ⟨rfl, hw2⟩
                    obtain rfl : wn = w2 := hw2.symm
                    go_wp2_with fail
                    refine Calls.mono HK1.out ?_
                    rintro e w2 ⟨rfl, hw2⟩
                    obtain rfl : wn = w2 := hw2.symm
                    go_wp2_with fail
                    refine Calls.mono HK2.out ?_
                    rintro e w2 ⟨rfl, hw2⟩
                    obtain rfl : wn = w2 := hw2.symm
                    go_wp2_with fail
                    refine Calls.mono HM1.out ?_
                    rintro e w2 ⟨rfl, hw2⟩
                    obtain rfl : wn = w2 := hw2.symm
                    go_wp2_with fail
                    go_roundw
                    case rel => exact ⟨k + 1, by omega, by go_num, HN.out, HBm.out⟩
                    case measure => simp [intOf]; omega
            | false =>
              by_cases hz : n3 = 0
              · have y3 : ((n3 : Int) == 0) = true := by simp; omega
                have HP : Hid (pr = false) := by show _ = _; rw [HAl.out]; simp [hz]
                have HN : Hid (res = allB (l.drop (k + 1)) (vb, kd, sp, nm)) := HA.out.trans (HS HP.out)
                clear HAl HS HT HP hz
                go_wp2_with fail
                rw [← HWn.out]
                refine Calls.mono HV1.out ?_
                rintro e w2 ⟨rfl, hw2⟩
                obtain rfl : wn = w2 := hw2.symm
                clear z0 z1 z2 z3 i1 i2 i3
                obtain ⟨z0, z1, z2, z3⟩ := HBx.out wn HBm.out
                obtain ⟨i1, i2, i3⟩ := HXr.out
                go_wp2_with fail
                refine Calls.mono HV2.out ?_
                rintro e w2 ⟨rfl, hw2⟩
                obtain rfl : wn = w2 := hw2.symm
                go_wp2_with fail
                refine Calls.mono HK1.out ?_
                rintro e w2 ⟨rfl, hw2⟩
                obtain rfl : wn = w2 := hw2.symm
                go_wp2_with fail
                refine Calls.mono HK2.out ?_
                rintro e w2 ⟨rfl, hw2⟩
                obtain rfl : wn = w2 := hw2.symm
                go_wp2_with fail
                go_roundw
                case rel => exact ⟨k + 1, by omega, by go_num, HN.out, HBm.out⟩
                case measure => simp [intOf]; omega
              · have y3 : ((n3 : Int) == 0) = false := by simp; omega
                cases b5 with
                | true =>
                  have hq2 : ym.toList.isEmpty = true := by rw [List.isEmpty_iff]; exact eq_of_beq hq
                  clear hq
                  have HP : Hid (pr = false) := by show _ = _; rw [HAl.out]; simp [hz]
                  have HN : Hid (res = allB (l.drop (k + 1)) (vb, kd, sp, nm)) := HA.out.trans (HS HP.out)
                  clear HAl HS HT HP hz
                  go_wp2_with fail
                  rw [← HWn.out]
                  refine Calls.mono HV1.out ?_
                  rintro e w2 ⟨rfl, hw2⟩
                  obtain rfl : wn = w2 := hw2.symm
                  clear z0 z1 z2 z3 i1 i2 i3
                  obtain ⟨z0, z1, z2, z3⟩ := HBx.out wn HBm.out
                  obtain ⟨i1, i2, i3⟩ := HXr.out
                  go_wp2_with fail
                  refine Calls.mono HV2.out ?_
                  rintro e w2 ⟨rfl, hw2⟩
                  obtain rfl : wn = w2 := hw2.symm
                  go_wp2_with fail
                  refine Calls.mono HK1.out ?_
                  rintro e w2 ⟨rfl, hw2⟩
                  obtain rfl : wn = w2 := hw2.symm
                  go_wp2_with fail
                  refine Calls.mono HK2.out ?_
                  rintro e w2 ⟨rfl, hw2⟩
                  obtain rfl : wn = w2 := hw2.symm
                  go_wp2_with fail
                  go_roundw
                  case rel => exact ⟨k + 1, by omega, by go_num, HN.out, HBm.out⟩
                  case measure => simp [intOf]; omega
                | false =>
                  have hq2 : ym.toList.isEmpty = false := by
                    cases hy : ym.toList.isEmpty with
                    | false => rfl
                    | true => rw [List.isEmpty_iff.1 hy] at hq; cases hq
                  clear hq
                  cases b6 with
                  | true =>
                    have HP : Hid (pr = false) := by show _ = _; rw [HAl.out]; simp [hz]
                    have HN : Hid (res = allB (l.drop (k + 1)) (vb, kd, sp, nm)) := HA.out.trans (HS HP.out)
                    clear HAl HS HT HP hz
                    go_wp2_with fail
                    rw [← HWn.out]
                    refine Calls.mono HV1.out ?_
                    rintro e w2 ⟨rfl, hw2⟩
                    obtain rfl : wn = w2 := hw2.symm
                    clear z0 z1 z2 z3 i1 i2 i3
                    obtain ⟨z0, z1, z2, z3⟩ := HBx.out wn HBm.out
                    obtain ⟨i1, i2, i3⟩ := HXr.out
                    go_wp2_with fail
                    refine Calls.mono HV2.out ?_
                    rintro e w2 ⟨rfl, hw2⟩
                    obtain rfl : wn = w2 := hw2.symm
                    go_wp2_with fail
                    refine Calls.mono HK1.out ?_
                    rintro e w2 ⟨rfl, hw2⟩
                    obtain rfl : wn = w2 := hw2.symm
                    go_wp2_with fail
                    refine Calls.mono HK2.out ?_
                    rintro e w2 ⟨rfl, hw2⟩
                    obtain rfl : wn = w2 := hw2.symm
                    go_wp2_with fail
                    refine Calls.mono HM1.out ?_
                    rintro e w2 ⟨rfl, hw2⟩
                    obtain rfl : wn = w2 := hw2.symm
                    go_wp2_with fail
                    go_roundw
                    case rel => exact ⟨k + 1, by omega, by go_num, HN.out, HBm.out⟩
                    case measure => simp [intOf]; omega
                  | false =>
                    have HP : Hid (pr = false) := by show _ = _; rw [HAl.out]; simp [hz]
                    have HN : Hid (res = allB (l.drop (k + 1)) (vb, kd, sp, nm)) := HA.out.trans (HS HP.out)
                    clear HAl HS HT HP hz
                    go_wp2_with fail
                    rw [← HWn.out]
                    refine Calls.mono HV1.out ?_
                    rintro e w2 ⟨rfl, hw2⟩
                    obtain rfl : wn = w2 := hw2.symm
                    clear z0 z1 z2 z3 i1 i2 i3
                    obtain ⟨z0, z1, z2, z3⟩ := HBx.out wn HBm.out
                    obtain ⟨i1, i2, i3⟩ := HXr.out
                    go_wp2_with fail
                    refine Calls.mono HV2.out ?_
                    rintro e w2 ⟨rfl, hw2⟩
                    obtain rfl : wn = w2 := hw2.symm
                    go_wp2_with fail
                    refine Calls.mono HK1.out ?_
                    rintro e w2 ⟨rfl, hw2⟩
                    obtain rfl : wn = w2 := hw2.symm
                    go_wp2_with fail
                    refine Calls.mono HK2.out ?_
                    rintro e w2 ⟨rfl, hw2⟩
                    obtain rfl : wn = w2 := hw2.symm
                    go_wp2_with fail
                    refine Calls.mono HM1.out ?_
                    rintro e w2 ⟨rfl, hw2⟩
                    obtain rfl : wn = w2 := hw2.symm
                    go_wp2_with fail
                    go_roundw
                    case rel => exact ⟨k + 1, by omega, by go_num, HN.out, HBm.out⟩
                    case measure => simp [intOf]; omega
        | false =>
          cases b3 with
          | true =>
            by_cases hz : n3 = 0
            · have y3 : ((n3 : Int) == 0) = true := by simp; omega
              have HP : Hid (pr = false) := by show _ = _; rw [HAl.out]; simp [hz]
              have HN : Hid (res = allB (l.drop (k + 1)) (vb, kd, sp, nm)) := HA.out.trans (HS HP.out)
              clear HAl HS HT HP hz
              go_wp2_with fail
              rw [← HWn.out]
              refine Calls.mono HV1.out ?_
              rintro e w2 ⟨rfl, hw2⟩
              obtain rfl : wn = w2 := hw2.symm
              clear z0 z1 z2 z3 i1 i2 i3
              obtain ⟨z0, z1, z2, z3⟩ := HBx.out wn HBm.out
              obtain ⟨i1, i2, i3⟩ := HXr.out
              go_wp2_with fail
              refine Calls.mono HV2.out ?_
              rintro e w2 ⟨rfl, hw2⟩
              obtain rfl : wn = w2 := hw2.symm
              go_wp2_with fail
              refine Calls.mono HK1.out ?_
              rintro e w2 ⟨rfl, hw2⟩
              obtain rfl : wn = w2 := hw2.symm
              go_wp2_with fail
              go_roundw
              case rel => exact ⟨k + 1, by omega, by go_num, HN.out, HBm.out⟩
              case measure => simp [intOf]; omega
            · have y3 : ((n3 : Int) == 0) = false := by simp; omega
              cases b5 with
              | true =>
                have hq2 : ym.toList.isEmpty = true := by rw [List.isEmpty_iff]; exact eq_of_beq hq
                clear hq
                have HP : Hid (pr = false) := by show _ = _; rw [HAl.out]; simp [hz]
                have HN : Hid (res = allB (l.drop (k + 1)) (vb, kd, sp, nm)) := HA.out.trans (HS HP.out)
                clear HAl HS HT HP hz
                go_wp2_with fail
                rw [← HWn.out]
                refine Calls.mono HV1.out ?_
                rintro e w2 ⟨rfl, hw2⟩
                obtain rfl : wn = w2 := hw2.symm
                clear z0 z1 z2 z3 i1 i2 i3
                obtain ⟨z0, z1, z2, z3⟩ := HBx.out wn HBm.out
                obtain ⟨i1, i2, i3⟩ := HXr.out
                go_wp2_with fail
                refine Calls.mono HV2.out ?_
                rintro e w2 ⟨rfl, hw2⟩
                obtain rfl : wn = w2 := hw2.symm
                go_wp2_with fail
                refine Calls.mono HK1.out ?_
                rintro e w2 ⟨rfl, hw2⟩
                obtain rfl : wn = w2 := hw2.symm
                go_wp2_with fail
                go_roundw
                case rel => exact ⟨k + 1, by omega, by go_num, HN.out, HBm.out⟩
                case measure => simp [intOf]; omega
              | false =>
                have hq2 : ym.toList.isEmpty = false := by
                  cases hy : ym.toList.isEmpty with
                  | false => rfl
                  | true => rw [List.isEmpty_iff.1 hy] at hq; cases hq
                clear hq
                cases b6 with
                | true =>
                  have HP : Hid (pr = false) := by show _ = _; rw [HAl.out]; simp [hz]
                  have HN : Hid (res = allB (l.drop (k + 1)) (vb, kd, sp, nm)) := HA.out.trans (HS HP.out)
                  clear HAl HS HT HP hz
                  go_wp2_with fail
                  rw [← HWn.out]
                  refine Calls.mono HV1.out ?_
                  rintro e w2 ⟨rfl, hw2⟩
                  obtain rfl : wn = w2 := hw2.symm
                  clear z0 z1 z2 z3 i1 i2 i3
                  obtain ⟨z0, z1, z2, z3⟩ := HBx.out wn HBm.out
                  obtain ⟨i1, i2, i3⟩ := HXr.out
                  go_wp2_with fail
                  refine Calls.mono HV2.out ?_
                  rintro e w2 ⟨rfl, hw2⟩
                  obtain rfl : wn = w2 := hw2.symm
                  go_wp2_with fail
                  refine Calls.mono HK1.out ?_
                  rintro e w2 ⟨rfl, hw2⟩
                  obtain rfl : wn = w2 := hw2.symm
                  go_wp2_with fail
                  refine Calls.mono HM1.out ?_
                  rintro e w2 ⟨rfl, hw2⟩
                  obtain rfl : wn = w2 := hw2.symm
                  go_wp2_with fail
                  go_roundw
                  case rel => exact ⟨k + 1, by omega, by go_num, HN.out, HBm.out⟩
                  case measure => simp [intOf]; omega
                | false =>
                  have HP : Hid (pr = false) := by show _ = _; rw [HAl.out]; simp [hz]
                  have HN : Hid (res = allB (l.drop (k + 1)) (vb, kd, sp, nm)) := HA.out.trans (HS HP.out)
                  clear HAl HS HT HP hz
                  go_wp2_with fail
                  rw [← HWn.out]
                  refine Calls.mono HV1.out ?_
                  rintro e w2 ⟨rfl, hw2⟩
                  obtain rfl : wn = w2 := hw2.symm
                  clear z0 z1 z2 z3 i1 i2 i3
                  obtain ⟨z0, z1, z2, z3⟩ := HBx.out wn HBm.out
                  obtain ⟨i1, i2, i3⟩ := HXr.out
                  go_wp2_with fail
                  refine Calls.mono HV2.out ?_
                  rintro e w2 ⟨rfl, hw2⟩
                  obtain rfl : wn = w2 := hw2.symm
                  go_wp2_with fail
                  refine Calls.mono HK1.out ?_
                  rintro e w2 ⟨rfl, hw2⟩
                  obtain rfl : wn = w2 := hw2.symm
                  go_wp2_with fail
                  refine Calls.mono HM1.out ?_
                  rintro e w2 ⟨rfl, hw2⟩
                  obtain rfl : wn = w2 := hw2.symm
                  go_wp2_with fail
                  go_roundw
                  case rel => exact ⟨k + 1, by omega, by go_num, HN.out, HBm.out⟩
                  case measure => simp [intOf]; omega
          | false =>
            cases b4 with
            | true =>
              by_cases hz : n3 = 0
              · have y3 : ((n3 : Int) == 0) = true := by simp; omega
                have HP : Hid (pr = false) := by show _ = _; rw [HAl.out]; simp [hz]
                have HN : Hid (res = allB (l.drop (k + 1)) (vb, kd, sp, nm)) := HA.out.trans (HS HP.out)
                clear HAl HS HT HP hz
                go_wp2_with fail
                rw [← HWn.out]
                refine Calls.mono HV1.out ?_
                rintro e w2 ⟨rfl, hw2⟩
                obtain rfl : wn = w2 := hw2.symm
                clear z0 z1 z2 z3 i1 i2 i3
                obtain ⟨z0, z1, z2, z3⟩ := HBx.out wn HBm.out
                obtain ⟨i1, i2, i3⟩ := HXr.out
                go_wp2_with fail
                refine Calls.mono HV2.out ?_
                rintro e w2 ⟨rfl, hw2⟩
                obtain rfl : wn = w2 := hw2.symm
                go_wp2_with fail
                refine Calls.mono HK1.out ?_
                rintro e w2 ⟨rfl, hw2⟩
                obtain rfl : wn = w2 := hw2.symm
                go_wp2_with fail
                refine Calls.mono HK2.out ?_
                rintro e w2 ⟨rfl, hw2⟩
                obtain rfl : wn = w2 := hw2.symm
                go_wp2_with fail
                go_roundw
                case rel => exact ⟨k + 1, by omega, by go_num, HN.out, HBm.out⟩
                case measure => simp [intOf]; omega
              · have y3 : ((n3 : Int) == 0) = false := by simp; omega
                cases b5 with
                | true =>
                  have hq2 : ym.toList.isEmpty = true := by rw [List.isEmpty_iff]; exact eq_of_beq hq
                  clear hq
                  have HP : Hid (pr = false) := by show _ = _; rw [HAl.out]; simp [hz]
                  have HN : Hid (res = allB (l.drop (k + 1)) (vb, kd, sp, nm)) := HA.out.trans (HS HP.out)
                  clear HAl HS HT HP hz
                  go_wp2_with fail
                  rw [← HWn.out]
                  refine Calls.mono HV1.out ?_
                  rintro e w2 ⟨rfl, hw2⟩
                  obtain rfl : wn = w2 := hw2.symm
                  clear z0 z1 z2 z3 i1 i2 i3
                  obtain ⟨z0, z1, z2, z3⟩ := HBx.out wn HBm.out
                  obtain ⟨i1, i2, i3⟩ := HXr.out
                  go_wp2_with fail
                  refine Calls.mono HV2.out ?_
                  rintro e w2 ⟨rfl, hw2⟩
                  obtain rfl : wn = w2 := hw2.symm
                  go_wp2_with fail
                  refine Calls.mono HK1.out ?_
                  rintro e w2 ⟨rfl, hw2⟩
                  obtain rfl : wn = w2 := hw2.symm
                  go_wp2_with fail
                  refine Calls.mono HK2.out ?_
                  rintro e w2 ⟨rfl, hw2⟩
                  obtain rfl : wn = w2 := hw2.symm
                  go_wp2_with fail
                  go_roundw
                  case rel => exact ⟨k + 1, by omega, by go_num, HN.out, HBm.out⟩
                  case measure => simp [intOf]; omega
                | false =>
                  have hq2 : ym.toList.isEmpty = false := by
                    cases hy : ym.toList.isEmpty with
                    | false => rfl
                    | true => rw [List.isEmpty_iff.1 hy] at hq; cases hq
                  clear hq
                  cases b6 with
                  | true =>
                    have HP : Hid (pr = false) := by show _ = _; rw [HAl.out]; simp [hz]
                    have HN : Hid (res = allB (l.drop (k + 1)) (vb, kd, sp, nm)) := HA.out.trans (HS HP.out)
                    clear HAl HS HT HP hz
                    go_wp2_with fail
                    rw [← HWn.out]
                    refine Calls.mono HV1.out ?_
                    rintro e w2 ⟨rfl, hw2⟩
                    obtain rfl : wn = w2 := hw2.symm
                    clear z0 z1 z2 z3 i1 i2 i3
                    obtain ⟨z0, z1, z2, z3⟩ := HBx.out wn HBm.out
                    obtain ⟨i1, i2, i3⟩ := HXr.out
                    go_wp2_with fail
                    refine Calls.mono HV2.out ?_
                    rintro e w2 ⟨rfl, hw2⟩
                    obtain rfl : wn = w2 := hw2.symm
                    go_wp2_with fail
                    refine Calls.mono HK1.out ?_
                    rintro e w2 ⟨rfl, hw2⟩
                    obtain rfl : wn = w2 := hw2.symm
                    go_wp2_with fail
                    refine Calls.mono HK2.out ?_
                    rintro e w2 ⟨rfl, hw2⟩
                    obtain rfl : wn = w2 := hw2.symm
                    go_wp2_with fail
                    refine Calls.mono HM1.out ?_
                    rintro e w2 ⟨rfl, hw2⟩
                    obtain rfl : wn = w2 := hw2.symm
                    go_wp2_with fail
                    go_roundw
                    case rel => exact ⟨k + 1, by omega, by go_num, HN.out, HBm.out⟩
                    case measure => simp [intOf]; omega
                  | false =>
                    have HP : Hid (pr = false) := by show _ = _; rw [HAl.out]; simp [hz]
                    have HN : Hid (res = allB (l.drop (k + 1)) (vb, kd, sp, nm)) := HA.out.trans (HS HP.out)
                    clear HAl HS HT HP hz
                    go_wp2_with fail
                    rw [← HWn.out]
                    refine Calls.mono HV1.out ?_
                    rintro e w2 ⟨rfl, hw2⟩
                    obtain rfl : wn = w2 := hw2.symm
                    clear z0 z1 z2 z3 i1 i2 i3
                    obtain ⟨z0, z1, z2, z3⟩ := HBx.out wn HBm.out
                    obtain ⟨i1, i2, i3⟩ := HXr.out
                    go_wp2_with fail
                    refine Calls.mono HV2.out ?_
                    rintro e w2 ⟨rfl, hw2⟩
                    obtain rfl : wn = w2 := hw2.symm
                    go_wp2_with fail
                    refine Calls.mono HK1.out ?_
                    rintro e w2 ⟨rfl, hw2⟩
                    obtain rfl : wn = w2 := hw2.symm
                    go_wp2_with fail
                    refine Calls.mono HK2.out ?_
                    rintro e w2 ⟨rfl, hw2⟩
                    obtain rfl : wn = w2 := hw2.symm
                    go_wp2_with fail
                    refine Calls.mono HM1.out ?_
                    rintro e w2 ⟨rfl, hw2⟩
                    obtain rfl : wn = w2 := hw2.symm
                    go_wp2_with fail
                    go_roundw
                    case rel => exact ⟨k + 1, by omega, by go_num, HN.out, HBm.out⟩
                    case measure => simp [intOf]; omega
            | false =>
              by_cases hz : n3 = 0
              · have y3 : ((n3 : Int) == 0) = true := by simp; omega
                have HP : Hid (pr = false) := by show _ = _; rw [HAl.out]; simp [hz]
                have HN : Hid (res = allB (l.drop (k + 1)) (vb, kd, sp, nm)) := HA.out.trans (HS HP.out)
                clear HAl HS HT HP hz
                go_wp2_with fail
                rw [← HWn.out]
                refine Calls.mono HV1.out ?_
                rintro e w2 ⟨rfl, hw2⟩
                obtain rfl : wn = w2 := hw2.symm
                clear z0 z1 z2 z3 i1 i2 i3
                obtain ⟨z0, z1, z2, z3⟩ := HBx.out wn HBm.out
                obtain ⟨i1, i2, i3⟩ := HXr.out
                go_wp2_with fail
                refine Calls.mono HV2.out ?_
                rintro e w2 ⟨rfl, hw2⟩
                obtain rfl : wn = w2 := hw2.symm
                go_wp2_with fail
                refine Calls.mono HK1.out ?_
                rintro e w2 ⟨rfl, hw2⟩
                obtain rfl : wn = w2 := hw2.symm
                go_wp2_with fail
                refine Calls.mono HK2.out ?_
                rintro e w2 ⟨rfl, hw2⟩
                obtain rfl : wn = w2 := hw2.symm
                go_wp2_with fail
                go_roundw
                case rel => exact ⟨k + 1, by omega, by go_num, HN.out, HBm.out⟩
                case measure => simp [intOf]; omega
              · have y3 : ((n3 : Int) == 0) = false := by simp; omega
                cases b5 with
                | true =>
                  have hq2 : ym.toList.isEmpty = true := by rw [List.isEmpty_iff]; exact eq_of_beq hq
                  clear hq
                  have HP : Hid (pr = false) := by show _ = _; rw [HAl.out]; simp [hz]
                  have HN : Hid (res = allB (l.drop (k + 1)) (vb, kd, sp, nm)) := HA.out.trans (HS HP.out)
                  clear HAl HS HT HP hz
                  go_wp2_with fail
                  rw [← HWn.out]
                  refine Calls.mono HV1.out ?_
                  rintro e w2 ⟨rfl, hw2⟩
                  obtain rfl : wn = w2 := hw2.symm
                  clear z0 z1 z2 z3 i1 i2 i3
                  obtain ⟨z0, z1, z2, z3⟩ := HBx.out wn HBm.out
                  obtain ⟨i1, i2, i3⟩ := HXr.out
                  go_wp2_with fail
                  refine Calls.mono HV2.out ?_
                  rintro e w2 ⟨rfl, hw2⟩
                  obtain rfl : wn = w2 := hw2.symm
                  go_wp2_with fail
                  refine Calls.mono HK1.out ?_
                  rintro e w2 ⟨rfl, hw2⟩
                  obtain rfl : wn = w2 := hw2.symm
                  go_wp2_with fail
                  refine Calls.mono HK2.out ?_
                  rintro e w2 ⟨rfl, hw2⟩
                  obtain rfl : wn = w2 := hw2.symm
                  go_wp2_with fail
                  go_roundw
                  case rel => exact ⟨k + 1, by omega, by go_num, HN.out, HBm.out⟩
                  case measure => simp [intOf]; omega
                | false =>
                  have hq2 : ym.toList.isEmpty = false := by
                    cases hy : ym.toList.isEmpty with
                    | false => rfl
                    | true => rw [List.isEmpty_iff.1 hy] at hq; cases hq
                  clear hq
                  cases b6 with
                  | true =>
                    have HP : Hid (pr = false) := by show _ = _; rw [HAl.out]; simp [hz]
                    have HN : Hid (res = allB (l.drop (k + 1)) (vb, kd, sp, nm)) := HA.out.trans (HS HP.out)
                    clear HAl HS HT HP hz
                    go_wp2_with fail
                    rw [← HWn.out]
                    refine Calls.mono HV1.out ?_
                    rintro e w2 ⟨rfl, hw2⟩
                    obtain rfl : wn = w2 := hw2.symm
                    clear z0 z1 z2 z3 i1 i2 i3
                    obtain ⟨z0, z1, z2, z3⟩ := HBx.out wn HBm.out
                    obtain ⟨i1, i2, i3⟩ := HXr.out
                    go_wp2_with fail
                    refine Calls.mono HV2.out ?_
                    rintro e w2 ⟨rfl, hw2⟩
                    obtain rfl : wn = w2 := hw2.symm
                    go_wp2_with fail
                    refine Calls.mono HK1.out ?_
                    rintro e w2 ⟨rfl, hw2⟩
                    obtain rfl : wn = w2 := hw2.symm
                    go_wp2_with fail
                    refine Calls.mono HK2.out ?_
                    rintro e w2 ⟨rfl, hw2⟩
                    obtain rfl : wn = w2 := hw2.symm
                    go_wp2_with fail
                    refine Calls.mono HM1.out ?_
                    rintro e w2 ⟨rfl, hw2⟩
                    obtain rfl : wn = w2 := hw2.symm
                    go_wp2_with fail
                    go_roundw
                    case rel => exact ⟨k + 1, by omega, by go_num, HN.out, HBm.out⟩
                    case measure => simp [intOf]; omega
                  | false =>
                    have HP : Hid (pr = false) := by show _ = _; rw [HAl.out]; simp [hz]
                    have HN : Hid (res = allB (l.drop (k + 1)) (vb, kd, sp, nm)) := HA.out.trans (HS HP.out)
                    clear HAl HS HT HP hz
                    go_wp2_with fail
                    rw [← HWn.out]
                    refine Calls.mono HV1.out ?_
                    rintro e w2 ⟨rfl, hw2⟩
                    obtain rfl : wn = w2 := hw2.symm
                    clear z0 z1 z2 z3 i1 i2 i3
                    obtain ⟨z0, z1, z2, z3⟩ := HBx.out wn HBm.out
                    obtain ⟨i1, i2, i3⟩ := HXr.out
                    go_wp2_with fail
                    refine Calls.mono HV2.out ?_
                    rintro e w2 ⟨rfl, hw2⟩
                    obtain rfl : wn = w2 := hw2.symm
                    go_wp2_with fail
                    refine Calls.mono HK1.out ?_
                    rintro e w2 ⟨rfl, hw2⟩
                    obtain rfl : wn = w2 := hw2.symm
                    go_wp2_with fail
                    refine Calls.mono HK2.out ?_
                    rintro e w2 ⟨rfl, hw2⟩
                    obtain rfl : wn = w2 := hw2.symm
                    go_wp2_with fail
                    refine Calls.mono HM1.out ?_
                    rintro e w2 ⟨rfl, hw2⟩
                    obtain rfl : wn = w2 := hw2.symm
                    go_wp2_with fail
                    go_roundw
                    case rel => exact ⟨k + 1, by omega, by go_num, HN.out, HBm.out⟩
                    case measure => simp [intOf]; omega
    · have HX2 : Hid (res = false) := HA.out.trans (HEnd.out k (by omega))
      go_wp2_with fail
      go_ret
      exact ⟨by rw [HX2.out]; rfl, HBw.out⟩
end Go.Proofs.Ytnjjlnhchfoigaa
