/- Contract over this translation: grants.Check. -/
import Derived.Test.YtnjjlnhchfoigabDoorGrBind
import Derived.RegionTactic
import Derived.Deep.RegionWith
namespace Go.Proofs.YtnjjlnhchfoigabDoor
open Go.RowKit
set_option linter.unusedVariables false
set_option linter.unusedSimpArgs false
theorem gbox2 {w w1 : World} {a b : Value} {t : TypeId} (h : Below (w.alloc (.cells #[a, b] t)).heap.size (w.alloc (.cells #[a, b] t)) w1) :
    w1.cell? ⟨w.heap.size, 0, none⟩ = some a ∧ w1.cell? ⟨w.heap.size, 1, none⟩ = some b := box2 h
theorem gr_large {rs : List Ro} {bs : List Bi} (h : 12 < rs.length ∨ 12 < bs.length) : grI rs bs = 2 := by
  unfold grI
  have e : (decide (12 < rs.length) || decide (12 < bs.length)) = true := by rcases h with h | h <;> simp [h]
  rw [e]; rfl
theorem gr_small {rs : List Ro} {bs : List Bi} (h : ¬ 12 < rs.length) (g : ¬ 12 < bs.length) : grI rs bs = orE (firstA roleI (rs.take 0) (rs.drop 0)) (firstA bindI (bs.take 0) (bs.drop 0)) := by
  unfold grI
  rw [decide_eq_false h, decide_eq_false g]; rfl
/-- grants in memory -/
structure Grs (w : World) (u v : Value) (rs : List Ro) (bs : List Bi) : Prop where
  ros : Ros w u rs
  bis : Bis w v bs
  fitO : ∀ r ∈ rs, FitO r
  fitB : ∀ b ∈ bs, FitB b
theorem Grs.below {w w' : World} {u v : Value} {rs : List Ro} {bs : List Bi} (h : Grs w u v rs bs) (hb : Below w.heap.size w w') : Grs w' u v rs bs :=
  ⟨Sq.below roAt_stays h.ros hb, Sq.below biAt_stays h.bis hb, h.fitO, h.fitB⟩
set_option maxRecDepth 100000 in
set_option maxHeartbeats 8000000 in
theorem grants_any (u v : Value) (rs : List Ro) (bs : List Bi) (w : World) (hg : Grs w u v rs bs) :
    Calls Tryd.prog 51 #[.agg #[u, v]] w fun e w' => e = .returned (.int .i64 (grI rs bs)) ∧ Below w.heap.size w w' := by
  obtain ⟨hu, hv, hfo, hfb⟩ := hg
  obtain ⟨p, c, rfl, hn, hcell⟩ := ros_open hu
  obtain ⟨p2, c2, rfl, hn2, hcell2⟩ := bis_open hv
  have HC : Hid (∀ k (hk : k < rs.length), ∃ g o, p = some ⟨g, o, none⟩ ∧ rs.length ≤ c ∧ ∀ w1, Below w.heap.size w w1 → ∃ p3 n3 c3,
      w1.cell? ⟨g, o + k * 3, none⟩ = some (.string (Ba rs[k].1)) ∧ w1.cell? ⟨g, o + k * 3 + 1, none⟩ = some (.string (Ba rs[k].2.1)) ∧ w1.cell? ⟨g, o + k * 3 + 2, none⟩ = some (.slice p3 n3 c3) ∧
      ∀ w2, Below w1.heap.size w1 w2 → Calls Tryd.prog 64 #[.agg #[.string (Ba rs[k].1), .string (Ba rs[k].2.1), .slice p3 n3 c3], .slice p k c] w2 fun e w' => e = .returned (.int .i64 (roleI (rs.take k) rs[k])) ∧ Below w2.heap.size w2 w') := fun k hk => by
    obtain ⟨g, o, h1, h2, h3, h4⟩ := hcell k hk
    refine ⟨g, o, h1, h2, fun w1 hb => ?_⟩
    obtain ⟨p3, n3, c3, k1, k2, k3, k4⟩ := h4 w1 hb
    exact ⟨p3, n3, c3, k1, k2, k3, fun w2 hb2 => role_any rs[k] _ _ (rs.take k) w2 (Sq.below rlAt_stays k4 hb2) (Sq.below roAt_stays (Sq.below roAt_stays (Sq.take hu (by omega)) hb) hb2) (hfo _ (List.getElem_mem hk))⟩
  have HC2 : Hid (∀ k (hk : k < bs.length), ∃ g o, p2 = some ⟨g, o, none⟩ ∧ bs.length ≤ c2 ∧ ∀ w1, Below w.heap.size w w1 → ∃ y3 b4 p4 n4 c4 p5 n5 c5,
      w1.cell? ⟨g, o + k * 6, none⟩ = some (.string (Ba bs[k].1)) ∧ w1.cell? ⟨g, o + k * 6 + 1, none⟩ = some (.string (Ba bs[k].2.1)) ∧ w1.cell? ⟨g, o + k * 6 + 2, none⟩ = some (.string y3) ∧ w1.cell? ⟨g, o + k * 6 + 3, none⟩ = some (.bool b4) ∧
      w1.cell? ⟨g, o + k * 6 + 4, none⟩ = some (.slice p4 n4 c4) ∧ w1.cell? ⟨g, o + k * 6 + 5, none⟩ = some (.slice p5 n5 c5) ∧
      ∀ w2, Below w1.heap.size w1 w2 → Calls Tryd.prog 65 #[.agg #[.string (Ba bs[k].1), .string (Ba bs[k].2.1), .string y3, .bool b4, .slice p4 n4 c4, .slice p5 n5 c5], .slice p2 k c2] w2 fun e w' => e = .returned (.int .i64 (bindI (bs.take k) bs[k])) ∧ Below w2.heap.size w2 w') := fun k hk => by
    obtain ⟨g, o, h1, h2, h3, h4⟩ := hcell2 k hk
    refine ⟨g, o, h1, h2, fun w1 hb => ?_⟩
    obtain ⟨p4, c4, p5, c5, k1, k2, k3, k4, k5, k6, k7, k8⟩ := h4 w1 hb
    exact ⟨_, _, p4, _, c4, p5, _, c5, k1, k2, k3, k4, k5, k6, fun w2 hb2 => bind_any bs[k] _ _ _ (bs.take k) w2 (k7.below hb2) (k8.below hb2) (Sq.below biAt_stays (Sq.below biAt_stays (Sq.take hv (by omega)) hb) hb2) (hfb _ (List.getElem_mem hk))⟩
  have HE1 : Hid ((12 < rs.length ∨ 12 < bs.length) → grI rs bs = 2) := gr_large
  have HE2 : Hid (¬ 12 < rs.length → ¬ 12 < bs.length → grI rs bs = orE (firstA roleI (rs.take 0) (rs.drop 0)) (firstA bindI (bs.take 0) (bs.drop 0))) := gr_small
  have HBx : Hid (∀ w1, Below (w.alloc (.cells #[.slice p rs.length c, .slice p2 bs.length c2] 25)).heap.size (w.alloc (.cells #[.slice p rs.length c, .slice p2 bs.length c2] 25)) w1 →
      w1.cell? ⟨w.heap.size, 0, none⟩ = some (.slice p rs.length c) ∧ w1.cell? ⟨w.heap.size, 1, none⟩ = some (.slice p2 bs.length c2)) := fun w1 h => gbox2 h
  obtain ⟨w0, hw0⟩ : ∃ w0, w0 = w.alloc (.cells #[.slice p rs.length c, .slice p2 bs.length c2] 25) := ⟨_, rfl⟩
  have hB0 : Below w.heap.size w w0 := by rw [hw0]; exact (Below.refl _ _).alloc (Nat.le_refl _) _
  have HB0 : Hid (Below w.heap.size w w0) := hB0
  rw [← hw0] at HBx
  have HW0 : Hid (w0 = w.alloc (.cells #[.slice p rs.length c, .slice p2 bs.length c2] 25)) := hw0
  clear hcell hcell2 hu hv hw0 hB0 hfo hfb
  generalize grI rs bs = res at *
  unfold maxLen at hn hn2
  by_cases g1 : 12 < rs.length
  · have i1 : (12 : Int) < (rs.length : Int) := by omega
    have HX : Hid (res = 2) := HE1.out (Or.inl g1)
    go_enter Tryd.func51, Tryd.ntmps51
    go_wp2_with fail
    go_ret
    exact ⟨by rw [HX.out]; rfl, by rw [← HW0.out]; exact HB0.out⟩
  have i1 : ¬ (12 : Int) < (rs.length : Int) := by omega
  by_cases g2 : 12 < bs.length
  · have i2 : (12 : Int) < (bs.length : Int) := by omega
    have HX : Hid (res = 2) := HE1.out (Or.inr g2)
    go_enter Tryd.func51, Tryd.ntmps51
    go_wp2_with fail
    go_ret
    exact ⟨by rw [HX.out]; rfl, by rw [← HW0.out]; exact HB0.out⟩
  have i2 : ¬ (12 : Int) < (bs.length : Int) := by omega
  have HX : Hid (res = orE (firstA roleI (rs.take 0) (rs.drop 0)) (firstA bindI (bs.take 0) (bs.drop 0))) := HE2.out g1 g2
  clear HE1 HE2 g1 g2
  go_enter Tryd.func51, Tryd.ntmps51
  go_wp2_with fail
  rw [← HW0.out]
  go_loopw [22] (fun i wr => ∃ k : Nat, k ≤ rs.length ∧ i = .int .i64 k ∧ firstA roleI (rs.take 0) (rs.drop 0) = firstA roleI (rs.take k) (rs.drop k) ∧ Below w0.heap.size w0 wr) (fun i _ => rs.length - (intOf i).toNat)
  case atStart => exact ⟨0, Nat.zero_le _, rfl, rfl, Below.refl _ _⟩
  case round =>
    obtain ⟨k, hk, rfl, hall, hbel⟩ := hrel
    have HA : Hid (firstA roleI (rs.take 0) (rs.drop 0) = firstA roleI (rs.take k) (rs.drop k)) := hall
    have HB : Hid (Below w0.heap.size w0 wr) := hbel
    have HBw : Hid (Below w.heap.size w wr) := HB0.out.trans (hbel.mono HB0.out.size)
    obtain ⟨x0, x1⟩ := HBx.out wr hbel
    clear hall hbel
    by_cases hlt : k < rs.length
    · obtain ⟨g, o, rfl, hlc, hc0⟩ := HC.out k hlt
      obtain ⟨p3, n3, c3, k1, k2, k3, hcall⟩ := hc0 wr HBw.out
      have HS : Hid (roleI (rs.take k) rs[k] = 0 → firstA roleI (rs.take k) (rs.drop k) = firstA roleI (rs.take (k + 1)) (rs.drop (k + 1))) := fun h => firstA_step hlt h
      have HT : Hid (roleI (rs.take k) rs[k] ≠ 0 → firstA roleI (rs.take k) (rs.drop k) = roleI (rs.take k) rs[k]) := fun h => firstA_hit hlt h
      generalize roleI (rs.take k) rs[k] = pr at hcall HS HT
      generalize Ba rs[k].1 = y1 at *
      generalize Ba rs[k].2.1 = y2 at *
      have HP : Hid (∀ w2, Below wr.heap.size wr w2 → Calls Tryd.prog 64 #[.agg #[.string y1, .string y2, .slice p3 n3 c3], .slice (some ⟨g, o, none⟩) k c] w2 fun e w' => e = .returned (.int .i64 pr) ∧ Below w2.heap.size w2 w') := hcall
      have hBn : Below wr.heap.size wr (wr.alloc (.cells #[.string y1, .string y2, .slice p3 n3 c3] 59)) := (Below.refl _ _).alloc (Nat.le_refl _) _
      have HBn : Hid (Below wr.heap.size wr (wr.alloc (.cells #[.string y1, .string y2, .slice p3 n3 c3] 59))) := hBn
      have HBm : Hid (Below w0.heap.size w0 (wr.alloc (.cells #[.string y1, .string y2, .slice p3 n3 c3] 59))) := HB.out.trans (hBn.mono HB.out.size)
      obtain ⟨z0, z1⟩ := HBx.out _ HBm.out
      clear hc0 hcall hBn
      by_cases hx : pr = 0
      · have hxb : (pr != 0) = false := by simp [hx]
        have HN : Hid (firstA roleI (rs.take 0) (rs.drop 0) = firstA roleI (rs.take (k + 1)) (rs.drop (k + 1))) := HA.out.trans (HS.out hx)
        clear HS HT hx
        go_wp2_with fail
        obtain ⟨v0, v1, v2⟩ := bx3 (Below.refl _ (wr.alloc (.cells #[.string y1, .string y2, .slice p3 n3 c3] 59)))
        generalize wr.alloc (.cells #[.string y1, .string y2, .slice p3 n3 c3] 59) = wn at *
        go_region_with (go_at_call 64; refine Calls.mono (HP.out _ HBn.out.drew) ?_; rintro e w1 ⟨rfl, b1⟩)
        all_goals
          have HB1 : Hid (Below w0.heap.size w0 w1) := HBm.out.drew.trans (b1.mono HBm.out.drew.size)
          clear b1
          go_wp2_with fail
          go_roundw
          case rel => exact ⟨k + 1, by omega, by go_num, HN.out, HB1.out⟩
          case measure => simp [intOf]; omega
      · have hxb : (pr != 0) = true := by simpa using hx
        have HX2 : Hid (res = pr) := by show _ = _; rw [HX.out, HA.out, HT.out hx, orE_l hx]
        clear HS HT hx
        go_wp2_with fail
        obtain ⟨v0, v1, v2⟩ := bx3 (Below.refl _ (wr.alloc (.cells #[.string y1, .string y2, .slice p3 n3 c3] 59)))
        generalize wr.alloc (.cells #[.string y1, .string y2, .slice p3 n3 c3] 59) = wn at *
        go_region_with (go_at_call 64; refine Calls.mono (HP.out _ HBn.out.drew) ?_; rintro e w1 ⟨rfl, b1⟩)
        all_goals
          have HB1 : Hid (Below w0.heap.size w0 w1) := HBm.out.drew.trans (b1.mono HBm.out.drew.size)
          clear b1
          go_wp2_with fail
          go_ret
          exact ⟨by rw [HX2.out]; rfl, HB0.out.trans (HB1.out.mono HB0.out.size)⟩
    · have HX3 : Hid (res = firstA bindI (bs.take 0) (bs.drop 0)) := by show _ = _; rw [HX.out, HA.out, firstA_end (by omega), orE_r rfl]
      clear HX HA HC
      go_wp2_with fail
      clear x0 x1
      have HBs : Hid (Below w0.heap.size w0 wr) := HB.out
      clear HB HBw
      go_loopw [40] (fun i wr => ∃ k : Nat, k ≤ bs.length ∧ i = .int .i64 k ∧ firstA bindI (bs.take 0) (bs.drop 0) = firstA bindI (bs.take k) (bs.drop k) ∧ Below w0.heap.size w0 wr) (fun i _ => bs.length - (intOf i).toNat)
      case atStart => exact ⟨0, Nat.zero_le _, rfl, rfl, HBs.out⟩
      case round =>
        obtain ⟨k2, hk2, rfl, hall, hbel⟩ := hrel
        have HA : Hid (firstA bindI (bs.take 0) (bs.drop 0) = firstA bindI (bs.take k2) (bs.drop k2)) := hall
        have HB : Hid (Below w0.heap.size w0 wr) := hbel
        have HBw : Hid (Below w.heap.size w wr) := HB0.out.trans (hbel.mono HB0.out.size)
        obtain ⟨x0, x1⟩ := HBx.out wr hbel
        clear hall hbel
        by_cases hlt2 : k2 < bs.length
        · obtain ⟨g, o, rfl, hlc, hc0⟩ := HC2.out k2 hlt2
          obtain ⟨y3, b4, p4, n4, c4, p5, n5, c5, e1, e2, e3, e4, e5, e6, hcall⟩ := hc0 wr HBw.out
          have HS : Hid (bindI (bs.take k2) bs[k2] = 0 → firstA bindI (bs.take k2) (bs.drop k2) = firstA bindI (bs.take (k2 + 1)) (bs.drop (k2 + 1))) := fun h => firstA_step hlt2 h
          have HT : Hid (bindI (bs.take k2) bs[k2] ≠ 0 → firstA bindI (bs.take k2) (bs.drop k2) = bindI (bs.take k2) bs[k2]) := fun h => firstA_hit hlt2 h
          generalize bindI (bs.take k2) bs[k2] = pr at hcall HS HT
          generalize Ba bs[k2].1 = y1 at *
          generalize Ba bs[k2].2.1 = y2 at *
          have HP : Hid (∀ w2, Below wr.heap.size wr w2 → Calls Tryd.prog 65 #[.agg #[.string y1, .string y2, .string y3, .bool b4, .slice p4 n4 c4, .slice p5 n5 c5], .slice (some ⟨g, o, none⟩) k2 c2] w2 fun e w' => e = .returned (.int .i64 pr) ∧ Below w2.heap.size w2 w') := hcall
          have hBn : Below wr.heap.size wr (wr.alloc (.cells #[.string y1, .string y2, .string y3, .bool b4, .slice p4 n4 c4, .slice p5 n5 c5] 61)) := (Below.refl _ _).alloc (Nat.le_refl _) _
          have HBn : Hid (Below wr.heap.size wr (wr.alloc (.cells #[.string y1, .string y2, .string y3, .bool b4, .slice p4 n4 c4, .slice p5 n5 c5] 61))) := hBn
          have HBm : Hid (Below w0.heap.size w0 (wr.alloc (.cells #[.string y1, .string y2, .string y3, .bool b4, .slice p4 n4 c4, .slice p5 n5 c5] 61))) := HB.out.trans (hBn.mono HB.out.size)
          obtain ⟨z0, z1⟩ := HBx.out _ HBm.out
          clear hc0 hcall hBn
          by_cases hx : pr = 0
          · have hxb : (pr != 0) = false := by simp [hx]
            have HN : Hid (firstA bindI (bs.take 0) (bs.drop 0) = firstA bindI (bs.take (k2 + 1)) (bs.drop (k2 + 1))) := HA.out.trans (HS.out hx)
            clear HS HT hx
            go_wp2_with fail
            obtain ⟨v0, v1, v2, v3, v4, v5⟩ := bx6 (Below.refl _ (wr.alloc (.cells #[.string y1, .string y2, .string y3, .bool b4, .slice p4 n4 c4, .slice p5 n5 c5] 61)))
            generalize wr.alloc (.cells #[.string y1, .string y2, .string y3, .bool b4, .slice p4 n4 c4, .slice p5 n5 c5] 61) = wn at *
            go_region_with (go_at_call 65; refine Calls.mono (HP.out _ HBn.out.drew) ?_; rintro e w1 ⟨rfl, b1⟩)
            all_goals
              have HB1 : Hid (Below w0.heap.size w0 w1) := HBm.out.drew.trans (b1.mono HBm.out.drew.size)
              clear b1
              go_wp2_with fail
              go_roundw
              case rel => exact ⟨k2 + 1, by omega, by go_num, HN.out, HB1.out⟩
              case measure => simp [intOf]; omega
          · have hxb : (pr != 0) = true := by simpa using hx
            have HX2 : Hid (res = pr) := by show _ = _; rw [HX3.out, HA.out, HT.out hx]
            clear HS HT hx
            go_wp2_with fail
            obtain ⟨v0, v1, v2, v3, v4, v5⟩ := bx6 (Below.refl _ (wr.alloc (.cells #[.string y1, .string y2, .string y3, .bool b4, .slice p4 n4 c4, .slice p5 n5 c5] 61)))
            generalize wr.alloc (.cells #[.string y1, .string y2, .string y3, .bool b4, .slice p4 n4 c4, .slice p5 n5 c5] 61) = wn at *
            go_region_with (go_at_call 65; refine Calls.mono (HP.out _ HBn.out.drew) ?_; rintro e w1 ⟨rfl, b1⟩)
            all_goals
              have HB1 : Hid (Below w0.heap.size w0 w1) := HBm.out.drew.trans (b1.mono HBm.out.drew.size)
              clear b1
              go_wp2_with fail
              go_ret
              exact ⟨by rw [HX2.out]; rfl, HB0.out.trans (HB1.out.mono HB0.out.size)⟩
        · have HX4 : Hid (res = 0) := by show _ = _; rw [HX3.out, HA.out, firstA_end (by omega)]
          go_wp2_with fail
          go_ret
          exact ⟨by rw [HX4.out]; rfl, HBw.out⟩
end Go.Proofs.YtnjjlnhchfoigabDoor
