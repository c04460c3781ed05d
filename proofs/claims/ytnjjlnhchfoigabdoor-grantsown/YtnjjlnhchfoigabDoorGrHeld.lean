/- Contract over this translation: grants.held. -/
import Derived.Test.YtnjjlnhchfoigabDoorGrFlat
import Derived.Test.YtnjjlnhchfoigabDoorGrCheck
namespace Go.Proofs.YtnjjlnhchfoigabDoor
open Go.RowKit
set_option linter.unusedVariables false
set_option linter.unusedSimpArgs false
theorem roleOf_len {rs : List Ro} {b : Bi} (h : ∀ r ∈ rs, r.2.2.length ≤ 8) : (roleOf rs b).length ≤ 8 := by
  induction rs with
  | nil => simp [roleOf]
  | cons r l ih =>
    rw [roleOf]
    split
    · exact h r (by simp)
    · exact ih (fun x hx => h x (by simp [hx]))
theorem held_hit {rs : List Ro} {bs : List Bi} {n : Bs} {gs : List Bs} {sp : Bs} {k : Nat} (hk : k < bs.length) (h : concB bs[k] n gs = true) (g : bs[k].1 = sp ∨ bs[k].1 = []) :
    heldP rs (bs.take (k + 1)) n gs sp = heldP rs (bs.take k) n gs sp ++ roleOf rs bs[k] := by
  rw [held_step hk]
  unfold heldOf countsB
  rw [h, if_pos (by rcases g with g | g <;> simp [g])]
theorem held_miss {rs : List Ro} {bs : List Bi} {n : Bs} {gs : List Bs} {sp : Bs} {k : Nat} (hk : k < bs.length) (h : concB bs[k] n gs = false ∨ (¬ bs[k].1 = sp ∧ ¬ bs[k].1 = [])) :
    heldP rs (bs.take (k + 1)) n gs sp = heldP rs (bs.take k) n gs sp := by
  rw [held_step hk]
  unfold heldOf countsB
  rw [if_neg (by rcases h with h | ⟨h, g⟩ <;> simp [*]), List.append_nil]
theorem held_all {rs : List Ro} {bs : List Bi} {n : Bs} {gs : List Bs} {sp : Bs} {k : Nat} (hk : bs.length ≤ k) : heldP rs (bs.take k) n gs sp = heldP rs bs n gs sp := by
  rw [List.take_of_length_le hk]
set_option maxRecDepth 100000 in
set_option maxHeartbeats 8000000 in
theorem held_any (u v x : Value) (rs : List Ro) (bs : List Bi) (n : Bs) (gs : List Bs) (sp : Bs) (w : World) (hg : Grs w u v rs bs) (hx : Strs w x gs) (hb12 : bs.length ≤ 12) (h8 : ∀ r ∈ rs, r.2.2.length ≤ 8) :
    Calls Tryd.prog 18 #[.agg #[u, v], .agg #[.string (Ba n), x], .string (Ba sp)] w fun e w' => ∃ (y : Value) (L : List RV), e = .returned y ∧ L.map (·.1) = heldP rs bs n gs sp ∧ w'.ownsRow w.heap.size 40 3 y L.length (flatG L) ∧ StG w L ∧ L.length ≤ 96 ∧ Below w.heap.size w w' := by
  obtain ⟨i0, hi, hz0, hz1, hz2⟩ := info_parts info_rule
  obtain ⟨hu, hv, hfo, hfb⟩ := hg
  obtain ⟨p, c, rfl, hn⟩ := Sq.form hu
  obtain ⟨p2, c2, rfl, hn2, hcell2⟩ := bis_open hv
  obtain ⟨px, cx, rfl, hnx⟩ := hx.form
  have HC2 : Hid (∀ k (hk : k < bs.length), ∃ g o, p2 = some ⟨g, o, none⟩ ∧ bs.length ≤ c2 ∧ ∀ w1, Below w.heap.size w w1 → ∃ p4 c4 p5 c5,
      w1.cell? ⟨g, o + k * 6, none⟩ = some (.string (Ba bs[k].1)) ∧ w1.cell? ⟨g, o + k * 6 + 1, none⟩ = some (.string (Ba bs[k].2.1)) ∧ w1.cell? ⟨g, o + k * 6 + 2, none⟩ = some (.string (Ba bs[k].2.2.1)) ∧ w1.cell? ⟨g, o + k * 6 + 3, none⟩ = some (.bool bs[k].2.2.2.1) ∧
      w1.cell? ⟨g, o + k * 6 + 4, none⟩ = some (.slice p4 bs[k].2.2.2.2.1.length c4) ∧ w1.cell? ⟨g, o + k * 6 + 5, none⟩ = some (.slice p5 bs[k].2.2.2.2.2.length c5) ∧
      (∀ w2, Below w1.heap.size w1 w2 → Calls Tryd.prog 39 #[.agg #[.string (Ba bs[k].1), .string (Ba bs[k].2.1), .string (Ba bs[k].2.2.1), .bool bs[k].2.2.2.1, .slice p4 bs[k].2.2.2.2.1.length c4, .slice p5 bs[k].2.2.2.2.2.length c5], .agg #[.string (Ba n), .slice px gs.length cx]] w2 fun e w' => e = .returned (.bool (concB bs[k] n gs)) ∧ Below w2.heap.size w2 w') ∧
      (∀ w2, Below w1.heap.size w1 w2 → Calls Tryd.prog 40 #[.slice p rs.length c, .agg #[.string (Ba bs[k].1), .string (Ba bs[k].2.1), .string (Ba bs[k].2.2.1), .bool bs[k].2.2.2.1, .slice p4 bs[k].2.2.2.2.1.length c4, .slice p5 bs[k].2.2.2.2.2.length c5]] w2 fun e w' => ∃ p n c, e = .returned (.slice p n c) ∧ Rls w (.slice p n c) (roleOf rs bs[k]) ∧ Below w2.heap.size w2 w')) := fun k hk => by
    obtain ⟨g, o, h1, h2, h3, h4⟩ := hcell2 k hk
    refine ⟨g, o, h1, h2, fun w1 hb => ?_⟩
    obtain ⟨p4, c4, p5, c5, k1, k2, k3, k4, k5, k6, k7, k8⟩ := h4 w1 hb
    exact ⟨p4, c4, p5, c5, k1, k2, k3, k4, k5, k6, fun w2 hb2 => conc_any bs[k] _ _ _ n gs w2 (k7.below hb2) (k8.below hb2) ((hx.below hb).below hb2), fun w2 hb2 => roleOf_any bs[k] _ _ _ rs w w2 (k7.below hb2) (k8.below hb2) hu (hb.trans (hb2.mono hb.size))⟩
  have HLen : Hid (∀ k (hk : k < bs.length), (roleOf rs bs[k]).length ≤ 8) := fun k hk => roleOf_len h8
  have HHit : Hid (∀ k (hk : k < bs.length), concB bs[k] n gs = true → (bs[k].1 = sp ∨ bs[k].1 = []) → heldP rs (bs.take (k + 1)) n gs sp = heldP rs (bs.take k) n gs sp ++ roleOf rs bs[k]) := fun k hk => held_hit hk
  have HMiss : Hid (∀ k (hk : k < bs.length), (concB bs[k] n gs = false ∨ (¬ bs[k].1 = sp ∧ ¬ bs[k].1 = [])) → heldP rs (bs.take (k + 1)) n gs sp = heldP rs (bs.take k) n gs sp) := fun k hk => held_miss hk
  have HEnd : Hid (∀ k, bs.length ≤ k → heldP rs (bs.take k) n gs sp = heldP rs bs n gs sp) := fun k hk => held_all hk
  have HQs : Hid (∀ s, ((Ba s).toList == (Ba sp).toList) = decide (s = sp)) := fun s => ba_beq s sp
  have HQe : Hid (∀ s, ((Ba s).toList == []) = decide (s = [])) := fun s => ba_is s []
  have HBx : Hid (∀ w1, Below ((w.alloc (.cells #[.slice p rs.length c, .slice p2 bs.length c2] 25)).alloc (.cells #[.string (Ba n), .slice px gs.length cx] 28)).heap.size ((w.alloc (.cells #[.slice p rs.length c, .slice p2 bs.length c2] 25)).alloc (.cells #[.string (Ba n), .slice px gs.length cx] 28)) w1 →
      w1.cell? ⟨w.heap.size, 0, none⟩ = some (.slice p rs.length c) ∧ w1.cell? ⟨w.heap.size, 1, none⟩ = some (.slice p2 bs.length c2) ∧ w1.cell? ⟨w.heap.size + 1, 0, none⟩ = some (.string (Ba n)) ∧ w1.cell? ⟨w.heap.size + 1, 1, none⟩ = some (.slice px gs.length cx)) := fun w1 h => by
    have h0 : Below (w.alloc (.cells #[.slice p rs.length c, .slice p2 bs.length c2] 25)).heap.size (w.alloc (.cells #[.slice p rs.length c, .slice p2 bs.length c2] 25)) w1 := ((Below.refl _ _).alloc (Nat.le_refl _) _).trans (h.mono (by simp))
    obtain ⟨a1, a2⟩ := gbox2 h0
    obtain ⟨a3, a4⟩ := gbox2 h
    have hs : (w.alloc (.cells #[.slice p rs.length c, .slice p2 bs.length c2] 25)).heap.size = w.heap.size + 1 := by simp
    rw [hs] at a3 a4
    exact ⟨a1, a2, a3, a4⟩
  obtain ⟨w0, hw0⟩ : ∃ w0, w0 = (w.alloc (.cells #[.slice p rs.length c, .slice p2 bs.length c2] 25)).alloc (.cells #[.string (Ba n), .slice px gs.length cx] 28) := ⟨_, rfl⟩
  have hB0 : Below w.heap.size w w0 := by rw [hw0]; exact ((Below.refl _ _).alloc (Nat.le_refl _) _).alloc (by simp) _
  have HB0 : Hid (Below w.heap.size w w0) := hB0
  rw [← hw0] at HBx
  have HW0 : Hid (w0 = (w.alloc (.cells #[.slice p rs.length c, .slice p2 bs.length c2] 25)).alloc (.cells #[.string (Ba n), .slice px gs.length cx] 28)) := hw0
  have hs0 : w.heap.size ≤ w0.heap.size := hB0.size
  have HSz : Hid (w.heap.size ≤ w0.heap.size) := hs0
  clear hcell2 hu hv hx hw0 hB0 hfo hfb h8 hs0
  generalize rs.length = lr at *
  generalize gs.length = lg at *
  generalize Ba n = yn at *
  generalize hys : Ba sp = ys at *
  clear hys
  unfold maxLen at hn hn2 hnx
  go_enter Tryd.func18, Tryd.ntmps18
  go_wp2_with fail
  rw [← HW0.out]
  go_loopw [7, 13] (fun sv i wr => ∃ (k : Nat) (L : List RV), k ≤ bs.length ∧ i = .int .i64 k ∧ L.map (·.1) = heldP rs (bs.take k) n gs sp ∧ wr.ownsRow w0.heap.size 40 3 sv L.length (flatG L) ∧ StG w L ∧ L.length ≤ 8 * k ∧ Below w0.heap.size w0 wr) (fun _ i _ => bs.length - (intOf i).toNat)
  case atStart => exact ⟨0, [], Nat.zero_le _, rfl, rfl, World.ownsRow_nil _ _ _ _, fun p hp => by simp at hp, Nat.zero_le _, Below.refl _ _⟩
  case round =>
    obtain ⟨k, L, hk, rfl, hmap, hown, hst, hlen, hbel⟩ := hrel
    have HM : Hid (L.map (·.1) = heldP rs (bs.take k) n gs sp) := hmap
    have HO : Hid (wr.ownsRow w0.heap.size 40 3 u7 L.length (flatG L)) := hown
    have HSt : Hid (StG w L) := hst
    have HB : Hid (Below w0.heap.size w0 wr) := hbel
    have HBw : Hid (Below w.heap.size w wr) := HB0.out.trans (hbel.mono HB0.out.size)
    clear hmap hown hst hbel
    by_cases hlt : k < bs.length
    · obtain ⟨g, o, rfl, hlc, hc0⟩ := HC2.out k hlt
      obtain ⟨p4, c4, p5, c5, e1, e2, e3, e4, e5, e6, hcA, hcB⟩ := hc0 wr HBw.out
      have HHi := HHit.out k hlt
      have HMi := HMiss.out k hlt
      have HLe : Hid ((roleOf rs bs[k]).length ≤ 8) := HLen.out k hlt
      have q1 := HQs.out bs[k].1
      have q2 := HQe.out bs[k].1
      generalize hro : roleOf rs bs[k] = ro at *
      clear hro
      generalize concB bs[k] n gs = cb at *
      generalize bs[k].1 = t1 at *
      generalize bs[k].2.1 = t2 at *
      generalize bs[k].2.2.1 = t3 at *
      generalize bs[k].2.2.2.1 = t4 at *
      generalize bs[k].2.2.2.2.1.length = l4 at *
      generalize bs[k].2.2.2.2.2.length = l5 at *
      generalize Ba t1 = y1 at *
      generalize Ba t2 = y2 at *
      generalize Ba t3 = y3 at *
      have HA : Hid (∀ w2, Below wr.heap.size wr w2 → Calls Tryd.prog 39 #[.agg #[.string y1, .string y2, .string y3, .bool t4, .slice p4 l4 c4, .slice p5 l5 c5], .agg #[.string yn, .slice px lg cx]] w2 fun e w' => e = .returned (.bool cb) ∧ Below w2.heap.size w2 w') := hcA
      have HR : Hid (∀ w2, Below wr.heap.size wr w2 → Calls Tryd.prog 40 #[.slice p lr c, .agg #[.string y1, .string y2, .string y3, .bool t4, .slice p4 l4 c4, .slice p5 l5 c5]] w2 fun e w' => ∃ p n c, e = .returned (.slice p n c) ∧ Rls w (.slice p n c) ro ∧ Below w2.heap.size w2 w') := hcB
      have HBb : Hid (∀ w1, Below (wr.alloc (.cells #[.string y1, .string y2, .string y3, .bool t4, .slice p4 l4 c4, .slice p5 l5 c5] 61)).heap.size (wr.alloc (.cells #[.string y1, .string y2, .string y3, .bool t4, .slice p4 l4 c4, .slice p5 l5 c5] 61)) w1 → w1.cell? ⟨wr.heap.size, 0, none⟩ = some (.string y1) ∧ w1.cell? ⟨wr.heap.size, 1, none⟩ = some (.string y2) ∧ w1.cell? ⟨wr.heap.size, 2, none⟩ = some (.string y3) ∧ w1.cell? ⟨wr.heap.size, 3, none⟩ = some (.bool t4) ∧ w1.cell? ⟨wr.heap.size, 4, none⟩ = some (.slice p4 l4 c4) ∧ w1.cell? ⟨wr.heap.size, 5, none⟩ = some (.slice p5 l5 c5)) := fun w1 h => bx6 h
      obtain ⟨wn, hwn⟩ : ∃ wn, wn = wr.alloc (.cells #[.string y1, .string y2, .string y3, .bool t4, .slice p4 l4 c4, .slice p5 l5 c5] 61) := ⟨_, rfl⟩
      have hBn : Below wr.heap.size wr wn := by rw [hwn]; exact (Below.refl _ _).alloc (Nat.le_refl _) _
      have HBn : Hid (Below wr.heap.size wr wn) := hBn
      have HWn : Hid (wn = wr.alloc (.cells #[.string y1, .string y2, .string y3, .bool t4, .slice p4 l4 c4, .slice p5 l5 c5] 61)) := hwn
      have HBm : Hid (Below w0.heap.size w0 wn) := HB.out.trans (hBn.mono HB.out.size)
      rw [← hwn] at HBb
      obtain ⟨z0, z1, z2, z3⟩ := HBx.out _ (hwn ▸ HBm.out)
      clear hc0 hcA hcB hBn hwn
      cases cb with
      | false =>
        have HN : Hid (L.map (·.1) = heldP rs (bs.take (k + 1)) n gs sp) := HM.out.trans (HMi (Or.inl rfl)).symm
        clear HHi HMi q1 q2
        go_wp2_with fail
        rw [← HWn.out]
        refine Calls.mono (HA.out _ HBn.out) ?_
        rintro e w1 ⟨rfl, b1⟩
        have HB1 : Hid (Below w0.heap.size w0 w1) := HBm.out.trans (b1.mono HBm.out.size)
        have HBr : Hid (Below wr.heap.size wr w1) := HBn.out.trans (b1.mono HBn.out.size)
        clear b1
        go_wp2_with fail
        go_roundw
        case rel => exact ⟨k + 1, L, by omega, by go_num, HN.out, own_belowG HO.out HBr.out, HSt.out, by omega, HB1.out⟩
        case measure => simp [intOf]; omega
      | true =>
        by_cases hin : t1 = sp ∨ t1 = []
        · have HN : Hid (heldP rs (bs.take (k + 1)) n gs sp = L.map (·.1) ++ ro) := by
            show _ = _
            rw [HHi rfl hin, HM.out]
          clear HHi HMi
          go_wp2_with fail
          rw [← HWn.out]
          refine Calls.mono (HA.out _ HBn.out) ?_
          rintro e w1 ⟨rfl, b1⟩
          have HB1 : Hid (Below w0.heap.size w0 w1) := HBm.out.trans (b1.mono HBm.out.size)
          have HBr : Hid (Below wr.heap.size wr w1) := HBn.out.trans (b1.mono HBn.out.size)
          obtain ⟨f0, f1, f2, f3, f4, f5⟩ := HBb.out w1 b1
          obtain ⟨j0, j1, j2, j3⟩ := HBx.out w1 HB1.out
          clear b1
          have HTl : Hid (∀ p6 n6 c6, Rls w (.slice p6 n6 c6) ro → n6 = ro.length ∧ ((p6 = none ∧ c6 = 0 ∧ ro = []) ∨ ∃ ad, p6 = some ad ∧ ∃ M : List RV, M.map (·.1) = ro ∧ StG w M ∧ ∀ j u, (flatG M)[j]? = some u → w.cell? (ad.add j) = some u)) := fun p6 n6 c6 h => rls_vals h
          have hq : ((y1.toList == ys.toList) = true) ∨ ((y1.toList == ys.toList) = false ∧ (y1.toList == []) = true) := by
            rw [q1, q2]
            by_cases ha : t1 = sp
            · exact Or.inl (decide_eq_true ha)
            · rcases hin with h | h
              · exact absurd h ha
              · exact Or.inr ⟨decide_eq_false ha, decide_eq_true h⟩
          clear q1 q2 hin z0 z1 z2 z3
          rcases hq with hq1 | ⟨hq1, hq2⟩
          all_goals
            go_wp2_with fail
            refine Calls.mono (HR.out _ HBr.out) ?_
            rintro e w2 ⟨p6, n6, c6, rfl, hrl, b2⟩
            obtain ⟨hn6, hcase⟩ := HTl.out p6 n6 c6 hrl
            have HB2 : Hid (Below w0.heap.size w0 w2) := HB1.out.trans (b2.mono HB1.out.size)
            have HBw2 : Hid (Below w.heap.size w w2) := HB0.out.trans (HB2.out.mono HB0.out.size)
            have HBs : Hid (Below wr.heap.size wr w2) := HBr.out.trans (b2.mono HBr.out.size)
            clear hrl b2
            rcases hcase with ⟨rfl, rfl, hro⟩ | ⟨ad, rfl, M, hM1, hM2, hM3⟩
            · have hn0 : n6 = 0 := by rw [hn6, hro]; rfl
              have HN2 : Hid (L.map (·.1) = heldP rs (bs.take (k + 1)) n gs sp) := by
                show _ = _
                rw [HN.out, hro, List.append_nil]
              clear hro hn6
              subst hn0
              have HO2 : Hid (w2.ownsRow w0.heap.size 40 3 u7 L.length (flatG L)) := own_belowG HO.out HBs.out
              go_wp2_with (at_builtin; refine wpList_append_own_none rfl _ _ 29 rfl w0.heap.size 40 i0 3 Tryd.underlying29 hi _ _ _ rfl HO2.out rfl ?_)
              go_wp2_with fail
              go_roundw
              case rel => exact ⟨k + 1, L, by omega, by go_num, HN2.out, HO2.out, HSt.out, by omega, HB2.out⟩
              case measure => simp [intOf]; omega
            · have hlM : M.length = ro.length := by rw [← hM1, List.length_map]
              have HN2 : Hid ((L ++ M).map (·.1) = heldP rs (bs.take (k + 1)) n gs sp) := by
                show _ = _
                rw [HN.out, List.map_append, hM1]
              have HS2 : Hid (StG w (L ++ M)) := HSt.out.append hM2
              have HO2 : Hid (w2.ownsRow w0.heap.size 40 3 u7 L.length (flatG L)) := own_belowG HO.out HBs.out
              have hle : M.length ≤ 8 := by rw [hlM]; exact HLe.out
              have hn7 : n6 = M.length := by rw [hn6, hlM]
              have HM3 : Hid (∀ j u, (flatG M)[j]? = some u → w2.cell? (ad.add j) = some u) := fun j u h => cell_stays (hM3 j u h) HBw2.out
              have HM4 : Hid (∀ u ∈ flatG M, u.oneCell' = true) := flatG_one hM2
              have HM5 : Hid ((flatG M).length = M.length * 3) := flatG_len M
              have HFa : Hid (flatG (L ++ M) = flatG L ++ flatG M) := flatG_append L M
              have HB2s : Hid (w0.heap.size ≤ w2.heap.size) := HB2.out.size
              clear hM1 hM2 hM3 hlM hn6
              subst hn7
              generalize hLl : L.length = ll at *
              generalize hMl : M.length = lm at *
              go_wp2_with (at_builtin; refine wpList_append_own _ rfl _ _ 29 rfl w0.heap.size 40 i0 (.agg #[.slice none 0 0, .slice none 0 0, .slice none 0 0]) 3 72 Tryd.underlying29 hi hz0 hz1 hz2 rfl (by decide) _ _ _ rfl HO2.out ad lm c6 (flatG M) rfl HM5.out HM3.out HM4.out (by unfold maxLen; omega) (by omega) HB2s.out ?_)
              intro v' w3 hown' hgrow _
              have HO3 : Hid (w3.ownsRow w0.heap.size 40 3 v' (L ++ M).length (flatG (L ++ M))) := by
                show w3.ownsRow _ _ _ _ _ _
                rw [HFa.out, List.length_append, hLl, hMl]
                exact hown'
              have HB3 : Hid (Below w0.heap.size w0 w3) := HB2.out.grown hgrow HB2s.out (fun b hb => (World.ownsRow.lt HO2.out b hb).1)
              clear hown' hgrow
              go_wp2_with fail
              go_roundw
              case rel => exact ⟨k + 1, L ++ M, by omega, by go_num, HN2.out, HO3.out, HS2.out, by rw [List.length_append, hLl, hMl]; omega, HB3.out⟩
              case measure => simp [intOf]; omega
        · have HN : Hid (L.map (·.1) = heldP rs (bs.take (k + 1)) n gs sp) := HM.out.trans (HMi (Or.inr ⟨fun h => hin (Or.inl h), fun h => hin (Or.inr h)⟩)).symm
          rw [decide_eq_false (fun h => hin (Or.inl h))] at q1
          rw [decide_eq_false (fun h => hin (Or.inr h))] at q2
          clear HHi HMi hin
          go_wp2_with fail
          rw [← HWn.out]
          refine Calls.mono (HA.out _ HBn.out) ?_
          rintro e w1 ⟨rfl, b1⟩
          have HB1 : Hid (Below w0.heap.size w0 w1) := HBm.out.trans (b1.mono HBm.out.size)
          have HBr : Hid (Below wr.heap.size wr w1) := HBn.out.trans (b1.mono HBn.out.size)
          obtain ⟨f0, f1, f2, f3, f4, f5⟩ := HBb.out w1 b1
          clear b1
          go_wp2_with fail
          go_roundw
          case rel => exact ⟨k + 1, L, by omega, by go_num, HN.out, own_belowG HO.out HBr.out, HSt.out, by omega, HB1.out⟩
          case measure => simp [intOf]; omega
    · have HN : Hid (L.map (·.1) = heldP rs bs n gs sp) := HM.out.trans (HEnd.out k (by omega))
      have hl96 : L.length ≤ 96 := by omega
      have HOw : Hid (wr.ownsRow w.heap.size 40 3 u7 L.length (flatG L)) := own_low HO.out HSz.out
      go_wp2_with fail
      go_ret
      exact ⟨u7, L, rfl, HN.out, HOw.out, HSt.out, hl96, HBw.out⟩
end Go.Proofs.YtnjjlnhchfoigabDoor
