/- The walk of the law GrantsNobody over this translation. -/
import Derived.Test.YtnjjlnhchfoigabGrHeldT
import Derived.Test.YtnjjlnhchfoigabGrMay
import Derived.Test.YtnjjlnhchfoigabGrNone
import Derived.Test.YtnjjlnhchfoigabGrHas
namespace Go.Proofs.Ytnjjlnhchfoigab
open Go.RowKit
set_option linter.unusedVariables false
set_option linter.unusedSimpArgs false
theorem conc_split (b : Bi) (n : Bs) (gs : List Bs) : concB b n gs = (decide (n ∈ b.2.2.2.2.1) || anyB (gs.drop 0) b.2.2.2.2.2) := rfl
theorem nobody_all {rs : List Ro} {bs : List Bi} {n : Bs} {gs : List Bs} {a : Ak} (h : ∀ k (hk : k < bs.length), concB bs[k] n gs = false) :
    mayB rs bs n gs a = false ∧ heldE rs bs n gs a.2.2.1 = [] := by
  have hb : ∀ b ∈ bs, concB b n gs = false := fun b hb => by
    obtain ⟨k, hk, rfl⟩ := List.getElem_of_mem hb
    exact h k hk
  have hp := held_none (rs := rs) (sp := a.2.2.1) hb
  refine ⟨?_, ?_⟩
  · unfold mayB; rw [hp]; simp [allB]
  · unfold heldE; rw [hp]; simp
theorem whym_zero {rs : List Ro} {bs : List Bi} {n : Bs} {gs : List Bs} {a : Ak} : whyMayI rs bs n gs a = orE (orE (grI rs bs) (userI n gs)) (askI a) := rfl
set_option maxRecDepth 100000 in
set_option maxHeartbeats 16000000 in
theorem nobody_walk (u v x : Value) (rs : List Ro) (bs : List Bi) (n : Bs) (gs : List Bs) (a : Ak) (w : World) (hg : Grs w u v rs bs) (hx : Strs w x gs) (hn : n.length ≤ maxLen) (hfg : FitS gs) (hfa : FitA a) :
    Calls Try.prog 3 #[.agg #[u, v], .agg #[.string (Ba n), x], askV a] w fun e w' => e = .returned (.bool true) ∧ Below w.heap.size w w' := by
  obtain ⟨p, c, rfl, hn1⟩ := Sq.form hg.ros
  obtain ⟨p2, c2, rfl, hn2, hcell2⟩ := bis_open hg.bis
  obtain ⟨px, cx, rfl, hnx, hcellx⟩ := hx.open
  have HM : Hid (∀ w1, Below w.heap.size w w1 → Calls Try.prog 4 #[.agg #[.slice p rs.length c, .slice p2 bs.length c2], .agg #[.string (Ba n), .slice px gs.length cx], askV a] w1 fun e w' => e = .returned (.tuple #[.bool (mayB rs bs n gs a), .int .i64 (whyMayI rs bs n gs a)]) ∧ Below w1.heap.size w1 w') := fun w1 hb => may_any _ _ _ rs bs n gs a w1 (hg.below hb) (hx.below hb) hn hfg hfa
  have HH : Hid (∀ w1, Below w.heap.size w w1 → Calls Try.prog 7 #[.agg #[.slice p rs.length c, .slice p2 bs.length c2], .agg #[.string (Ba n), .slice px gs.length cx], .string (Ba a.2.2.1)] w1 fun e w' => ∃ p c, e = .returned (.tuple #[.slice p (heldE rs bs n gs a.2.2.1).length c, .int .i64 (whyI rs bs n gs a.2.2.1)]) ∧ Below w1.heap.size w1 w') := fun w1 hb => by
    refine (heldT_any _ _ _ rs bs n gs a.2.2.1 w1 (hg.below hb) (hx.below hb) hn hfg hfa.2.2.1).mono ?_
    rintro e w2 ⟨y, rfl, ht, b2⟩
    obtain ⟨p, c, rfl, _⟩ := Sq.form ht.rls
    exact ⟨p, c, rfl, b2⟩
  have HN : Hid (∀ w, Calls Try.prog 5 #[] w fun e w' => e = .returned (.bool true) ∧ Below w.heap.size w w') := none_any
  have HG : Hid (∀ w1, Below w.heap.size w w1 → Calls Try.prog 8 #[.agg #[.slice p rs.length c, .slice p2 bs.length c2]] w1 fun e w' => e = .returned (.int .i64 (grI rs bs)) ∧ Below w1.heap.size w1 w') := fun w1 hb => grants_any _ _ rs bs w1 (hg.below hb)
  have HU : Hid (∀ w1, Below w.heap.size w w1 → Calls Try.prog 9 #[.agg #[.string (Ba n), .slice px gs.length cx]] w1 fun e w' => e = .returned (.int .i64 (userI n gs)) ∧ Below w1.heap.size w1 w') := fun w1 hb => user_any n _ gs w1 hn (hx.below hb) hfg
  have HAk : Hid (∀ w1, Calls Try.prog 10 #[askV a] w1 fun e w' => e = .returned (.int .i64 (askI a)) ∧ Below w1.heap.size w1 w') := fun w1 => ask_any a w1 hfa
  have HC2 : Hid (∀ k (hk : k < bs.length), ∃ g o, p2 = some ⟨g, o, none⟩ ∧ bs.length ≤ c2 ∧ ∀ w1, Below w.heap.size w w1 → ∃ y1 y2 y3 b4 p4 n4 c4 p5 n5 c5,
      w1.cell? ⟨g, o + k * 6, none⟩ = some (.string y1) ∧ w1.cell? ⟨g, o + k * 6 + 1, none⟩ = some (.string y2) ∧ w1.cell? ⟨g, o + k * 6 + 2, none⟩ = some (.string y3) ∧ w1.cell? ⟨g, o + k * 6 + 3, none⟩ = some (.bool b4) ∧
      w1.cell? ⟨g, o + k * 6 + 4, none⟩ = some (.slice p4 n4 c4) ∧ w1.cell? ⟨g, o + k * 6 + 5, none⟩ = some (.slice p5 n5 c5) ∧
      (∀ w2, Below w1.heap.size w1 w2 → Calls Try.prog 6 #[.slice p4 n4 c4, .string (Ba n)] w2 fun e w' => e = .returned (.bool (decide (n ∈ bs[k].2.2.2.2.1))) ∧ w' = w2) ∧
      (∀ w2, Below w1.heap.size w1 w2 → ∀ s, Calls Try.prog 6 #[.slice p5 n5 c5, .string (Ba s)] w2 fun e w' => e = .returned (.bool (decide (s ∈ bs[k].2.2.2.2.2))) ∧ w' = w2)) := fun k hk => by
    obtain ⟨g, o, h1, h2, h3, h4⟩ := hcell2 k hk
    refine ⟨g, o, h1, h2, fun w1 hb => ?_⟩
    obtain ⟨p4, c4, p5, c5, k1, k2, k3, k4, k5, k6, k7, k8⟩ := h4 w1 hb
    exact ⟨_, _, _, _, p4, _, c4, p5, _, c5, k1, k2, k3, k4, k5, k6, fun w2 hb2 => has_any _ _ n w2 (k7.below hb2), fun w2 hb2 s => has_any _ _ s w2 (k8.below hb2)⟩
  have HCx : Hid (∀ k (hk : k < gs.length), ∃ g o, px = some ⟨g, o, none⟩ ∧ gs.length ≤ cx ∧ ∀ w1, Below w.heap.size w w1 → w1.cell? ⟨g, o + k, none⟩ = some (.string (Ba gs[k]))) := hcellx
  have HAll : Hid ((∀ k (hk : k < bs.length), concB bs[k] n gs = false) → mayB rs bs n gs a = false ∧ heldE rs bs n gs a.2.2.1 = []) := nobody_all
  have HWy : Hid (whyMayI rs bs n gs a = orE (orE (grI rs bs) (userI n gs)) (askI a)) := whym_zero
  have HSp : Hid (∀ k (hk : k < bs.length), concB bs[k] n gs = (decide (n ∈ bs[k].2.2.2.2.1) || anyB (gs.drop 0) bs[k].2.2.2.2.2)) := fun k hk => conc_split _ _ _
  have HS0 : Hid (∀ bg k (hk : k < gs.length), decide (gs[k] ∈ bg) = false → anyB (gs.drop k) bg = anyB (gs.drop (k + 1)) bg) := fun bg k hk h => any_step hk h
  have HEnd : Hid (∀ bg k, gs.length ≤ k → anyB (gs.drop k) bg = false) := fun bg k hk => any_end hk
  clear hg hx hn hfg hfa hcell2 hcellx
  generalize mayB rs bs n gs a = x1 at *
  generalize whyMayI rs bs n gs a = e1 at *
  generalize heldE rs bs n gs a.2.2.1 = H at *
  generalize whyI rs bs n gs a.2.2.1 = e2 at *
  generalize grI rs bs = q1 at *
  generalize userI n gs = q2 at *
  generalize askI a = q3 at *
  obtain ⟨vb, kd, sp, nm⟩ := a
  dsimp only [askV] at *
  generalize rs.length = l1 at *
  generalize hyn : Ba n = yn at *
  clear hyn
  generalize Ba vb = s1 at *
  generalize Ba kd = s2 at *
  generalize Ba sp = s3 at *
  generalize Ba nm = s4 at *
  have HBx : Hid (∀ w1, Below (((w.alloc (.cells #[.slice p l1 c, .slice p2 bs.length c2] 25)).alloc (.cells #[.string yn, .slice px gs.length cx] 28)).alloc (.cells #[.string s1, .string s2, .string s3, .string s4] 30)).heap.size (((w.alloc (.cells #[.slice p l1 c, .slice p2 bs.length c2] 25)).alloc (.cells #[.string yn, .slice px gs.length cx] 28)).alloc (.cells #[.string s1, .string s2, .string s3, .string s4] 30)) w1 →
      (w1.cell? ⟨w.heap.size, 0, none⟩ = some (.slice p l1 c) ∧ w1.cell? ⟨w.heap.size, 1, none⟩ = some (.slice p2 bs.length c2) ∧ w1.cell? ⟨w.heap.size + 1, 0, none⟩ = some (.string yn) ∧ w1.cell? ⟨w.heap.size + 1, 1, none⟩ = some (.slice px gs.length cx)) ∧
      w1.cell? ⟨w.heap.size + 2, 0, none⟩ = some (.string s1) ∧ w1.cell? ⟨w.heap.size + 2, 1, none⟩ = some (.string s2) ∧ w1.cell? ⟨w.heap.size + 2, 2, none⟩ = some (.string s3) ∧ w1.cell? ⟨w.heap.size + 2, 3, none⟩ = some (.string s4)) := fun w1 h => bxs3 h
  obtain ⟨w0, hw0⟩ : ∃ w0, w0 = ((w.alloc (.cells #[.slice p l1 c, .slice p2 bs.length c2] 25)).alloc (.cells #[.string yn, .slice px gs.length cx] 28)).alloc (.cells #[.string s1, .string s2, .string s3, .string s4] 30) := ⟨_, rfl⟩
  have hB0 : Below w.heap.size w w0 := by rw [hw0]; exact (((Below.refl _ _).alloc (Nat.le_refl _) _).alloc (by simp) _).alloc (by simp; omega) _
  have HB0 : Hid (Below w.heap.size w w0) := hB0
  rw [← hw0] at HBx
  have HW0 : Hid (w0 = ((w.alloc (.cells #[.slice p l1 c, .slice p2 bs.length c2] 25)).alloc (.cells #[.string yn, .slice px gs.length cx] 28)).alloc (.cells #[.string s1, .string s2, .string s3, .string s4] 30)) := hw0
  clear hw0 hB0
  unfold maxLen at hn1 hn2 hnx
  go_enter Try.func3, Try.ntmps3
  go_wp2_with fail
  rw [← HW0.out]
  refine Calls.mono (HM.out _ HB0.out) ?_
  rintro e wa ⟨rfl, bb⟩
  have HCa : Hid (Below w0.heap.size w0 wa) := bb
  clear bb
  go_wp2_with fail
  refine Calls.mono (HN.out _) ?_
  rintro e wb ⟨rfl, bb⟩
  have HCb : Hid (Below w0.heap.size w0 wb) := HCa.out.trans (bb.mono HCa.out.size)
  clear bb
  obtain ⟨⟨x0, x1', x2, x3⟩, x4, x5, x6, x7⟩ := HBx.out wb HCb.out
  go_wp2_with fail
  clear x0 x1' x2 x3 x4 x5 x6 x7
  go_loopw [27] (fun i wr => ∃ k : Nat, k ≤ bs.length ∧ i = .int .i64 k ∧ (∀ j (hj : j < bs.length), j < k → concB bs[j] n gs = false) ∧ Below w0.heap.size w0 wr) (fun i _ => bs.length - (intOf i).toNat)
  case atStart => exact ⟨0, Nat.zero_le _, rfl, fun j _ h => absurd h (Nat.not_lt_zero _), HCb.out⟩
  case round =>
    obtain ⟨k, hk, rfl, hall, hbel⟩ := hrel
    have HA : Hid (∀ j (hj : j < bs.length), j < k → concB bs[j] n gs = false) := hall
    have HB : Hid (Below w0.heap.size w0 wr) := hbel
    have HBw : Hid (Below w.heap.size w wr) := HB0.out.trans (hbel.mono HB0.out.size)
    clear hall hbel HCa HCb
    by_cases hlt : k < bs.length
    · obtain ⟨g, o, rfl, hlc, hc0⟩ := HC2.out k hlt
      obtain ⟨y1, y2, y3, b4, p4, n4, c4, p5, n5, c5, i1, i2, i3, i4, i5, i6, hcA, hcB⟩ := hc0 wr HBw.out
      have HSk : Hid (concB bs[k] n gs = (decide (n ∈ bs[k].2.2.2.2.1) || anyB (gs.drop 0) bs[k].2.2.2.2.2)) := HSp.out k hlt
      have HNext : Hid (concB bs[k] n gs = false → ∀ j (hj : j < bs.length), j < k + 1 → concB bs[j] n gs = false) := fun h j hj hjk => by
        rcases Nat.lt_succ_iff_lt_or_eq.1 hjk with h' | h'
        · exact HA.out j hj h'
        · subst h'; exact h
      generalize hbg : bs[k].2.2.2.2.2 = bg at *
      generalize decide (n ∈ bs[k].2.2.2.2.1) = d1 at *
      clear hbg
      have HHa : Hid (∀ w2, Below wr.heap.size wr w2 → Calls Try.prog 6 #[.slice p4 n4 c4, .string yn] w2 fun e w' => e = .returned (.bool d1) ∧ w' = w2) := hcA
      have HHb : Hid (∀ w2, Below wr.heap.size wr w2 → ∀ s, Calls Try.prog 6 #[.slice p5 n5 c5, .string (Ba s)] w2 fun e w' => e = .returned (.bool (decide (s ∈ bg))) ∧ w' = w2) := hcB
      have HBb : Hid (∀ w1, Below (wr.alloc (.cells #[.string y1, .string y2, .string y3, .bool b4, .slice p4 n4 c4, .slice p5 n5 c5] 36)).heap.size (wr.alloc (.cells #[.string y1, .string y2, .string y3, .bool b4, .slice p4 n4 c4, .slice p5 n5 c5] 36)) w1 → w1.cell? ⟨wr.heap.size, 0, none⟩ = some (.string y1) ∧ w1.cell? ⟨wr.heap.size, 1, none⟩ = some (.string y2) ∧ w1.cell? ⟨wr.heap.size, 2, none⟩ = some (.string y3) ∧ w1.cell? ⟨wr.heap.size, 3, none⟩ = some (.bool b4) ∧ w1.cell? ⟨wr.heap.size, 4, none⟩ = some (.slice p4 n4 c4) ∧ w1.cell? ⟨wr.heap.size, 5, none⟩ = some (.slice p5 n5 c5)) := fun w1 h => bx6 h
      obtain ⟨wn, hwn⟩ : ∃ wn, wn = wr.alloc (.cells #[.string y1, .string y2, .string y3, .bool b4, .slice p4 n4 c4, .slice p5 n5 c5] 36) := ⟨_, rfl⟩
      have hBn : Below wr.heap.size wr wn := by rw [hwn]; exact (Below.refl _ _).alloc (Nat.le_refl _) _
      have HBn : Hid (Below wr.heap.size wr wn) := hBn
      have HWn : Hid (wn = wr.alloc (.cells #[.string y1, .string y2, .string y3, .bool b4, .slice p4 n4 c4, .slice p5 n5 c5] 36)) := hwn
      have HBm : Hid (Below w0.heap.size w0 wn) := HB.out.trans (hBn.mono HB.out.size)
      have HBmw : Hid (Below w.heap.size w wn) := HBw.out.trans (hBn.mono HBw.out.size)
      rw [← hwn] at HBb
      have hz := HBx.out wn HBm.out
      have HZ : Hid (_) := hz
      have hf := HBb.out wn (Below.refl _ _)
      have HF : Hid (_) := hf
      obtain ⟨⟨z0, z1, z2, z3⟩, z4, z5, z6, z7⟩ := hwn ▸ hz
      clear hc0 hcA hcB hBn hwn hz hf
      cases d1 with
      | true =>
        go_wp2_with fail
        rw [← HWn.out]
        refine Calls.mono (HHa.out _ HBn.out) ?_
        rintro e w2 ⟨rfl, hw2⟩
        obtain rfl : wn = w2 := hw2.symm
        go_wp2_with fail
        go_ret
        exact ⟨rfl, HBmw.out⟩
      | false =>
        have HX : Hid (concB bs[k] n gs = anyB (gs.drop 0) bg) := HSk.out
        go_wp2_with fail
        rw [← HWn.out]
        refine Calls.mono (HHa.out _ HBn.out) ?_
        rintro e w2 ⟨rfl, hw2⟩
        obtain rfl : wn = w2 := hw2.symm
        clear z0 z1 z2 z3 z4 z5 z6 z7 i1 i2 i3 i4 i5 i6
        obtain ⟨⟨z0, z1, z2, z3⟩, z4, z5, z6, z7⟩ := HZ.out
        obtain ⟨f0, f1, f2, f3, f4, f5⟩ := HF.out
        go_wp2_with fail
        go_loop [39] (fun i => ∃ k : Nat, k ≤ gs.length ∧ i = .int .i64 k ∧ anyB (gs.drop 0) bg = anyB (gs.drop k) bg) (fun i => gs.length - (intOf i).toNat)
        case atStart => exact ⟨0, Nat.zero_le _, rfl, rfl⟩
        case round =>
          obtain ⟨k2, hk2, rfl, hall2⟩ := hrel
          have HA2 : Hid (anyB (gs.drop 0) bg = anyB (gs.drop k2) bg) := hall2
          clear hall2
          by_cases hlt2 : k2 < gs.length
          · obtain ⟨g2, o2, rfl, hlc2, hc2⟩ := HCx.out k2 hlt2
            have hc := hc2 wn HBmw.out
            have HCh : Hid (Calls Try.prog 6 #[.slice p5 n5 c5, .string (Ba gs[k2])] wn fun e w' => e = .returned (.bool (decide (gs[k2] ∈ bg))) ∧ w' = wn) := HHb.out wn HBn.out gs[k2]
            have HS := HS0.out bg k2 hlt2
            clear hc2
            generalize decide (gs[k2] ∈ bg) = d at *
            generalize Ba gs[k2] = z at *
            cases d with
            | true =>
              clear HS
              go_wp2_with fail
              refine Calls.mono HCh.out ?_
              rintro e w2 ⟨rfl, hw2⟩
              obtain rfl : wn = w2 := hw2.symm
              go_wp2_with fail
              go_ret
              exact ⟨rfl, HBmw.out⟩
            | false =>
              have HR : Hid (anyB (gs.drop 0) bg = anyB (gs.drop (k2 + 1)) bg) := HA2.out.trans (HS rfl)
              clear HS
              go_wp2_with fail
              refine Calls.mono HCh.out ?_
              rintro e w2 ⟨rfl, hw2⟩
              obtain rfl : wn = w2 := hw2.symm
              go_wp2_with fail
              go_round
              case rel => exact ⟨k2 + 1, by omega, by go_num, HR.out⟩
              case measure => simp [intOf]; omega
          · have HN2 : Hid (∀ j (hj : j < bs.length), j < k + 1 → concB bs[j] n gs = false) := HNext.out (HX.out.trans (HA2.out.trans (HEnd.out bg k2 (by omega))))
            go_wp2_with fail
            go_roundw
            case rel => exact ⟨k + 1, by omega, by go_num, HN2.out, HBm.out⟩
            case measure => simp [intOf]; omega
    · obtain ⟨hxx, hHH⟩ := HAll.out (fun j hj => HA.out j hj (by omega))
      subst hxx
      have HH0 : Hid (H = []) := hHH
      have HH2 : Hid (∀ w1, Below w.heap.size w w1 → Calls Try.prog 7 #[.agg #[.slice p l1 c, .slice p2 bs.length c2], .agg #[.string yn, .slice px gs.length cx], .string s3] w1 fun e w' => ∃ p c, e = .returned (.tuple #[.slice p 0 c, .int .i64 e2]) ∧ Below w1.heap.size w1 w') := fun w1 hb => by
        have h := HH.out w1 hb
        rw [hHH] at h
        exact h
      clear hHH HAll HA
      obtain ⟨⟨z0, z1, z2, z3⟩, z4, z5, z6, z7⟩ := HBx.out wr HB.out
      by_cases g1 : q1 = 0
      · have j1 : (q1 == 0) = true := by simp [g1]
        by_cases g2 : q2 = 0
        · have j2 : (q2 == 0) = true := by simp [g2]
          by_cases g3 : q3 = 0
          · have j3 : (q3 == 0) = true := by simp [g3]
            have j0 : (e1 == 0) = true := by rw [HWy.out, g1, g2, g3]; rfl
            clear g1 g2 g3 HWy
            go_wp2_with fail
            refine Calls.mono (HH2.out _ HBw.out) ?_
            rintro e wc ⟨pa, ca, rfl, bb⟩
            have HCc : Hid (Below w0.heap.size w0 wc) := HB.out.trans (bb.mono HB.out.size)
            have HBc : Hid (Below w.heap.size w wc) := HBw.out.trans (bb.mono HBw.out.size)
            clear bb z0 z1 z2 z3 z4 z5 z6 z7
            obtain ⟨⟨z0, z1, z2, z3⟩, z4, z5, z6, z7⟩ := HBx.out wc HCc.out
            go_wp2_with fail
            refine Calls.mono (HG.out _ HBc.out) ?_
            rintro e wd ⟨rfl, bb⟩
            have HCd : Hid (Below w0.heap.size w0 wd) := HCc.out.trans (bb.mono HCc.out.size)
            have HBd : Hid (Below w.heap.size w wd) := HBc.out.trans (bb.mono HBc.out.size)
            clear bb z0 z1 z2 z3 z4 z5 z6 z7
            obtain ⟨⟨z0, z1, z2, z3⟩, z4, z5, z6, z7⟩ := HBx.out wd HCd.out
            go_wp2_with fail
            refine Calls.mono (HU.out _ HBd.out) ?_
            rintro e we ⟨rfl, bb⟩
            have HCe : Hid (Below w0.heap.size w0 we) := HCd.out.trans (bb.mono HCd.out.size)
            have HBe : Hid (Below w.heap.size w we) := HBd.out.trans (bb.mono HBd.out.size)
            clear bb z0 z1 z2 z3 z4 z5 z6 z7
            obtain ⟨⟨z0, z1, z2, z3⟩, z4, z5, z6, z7⟩ := HBx.out we HCe.out
            go_wp2_with fail
            refine Calls.mono (HAk.out _) ?_
            rintro e wf ⟨rfl, bb⟩
            have HBf : Hid (Below w.heap.size w wf) := HBe.out.trans (bb.mono HBe.out.size)
            clear bb z0 z1 z2 z3 z4 z5 z6 z7
            go_wp2_with fail
            go_ret
            exact ⟨rfl, HBf.out⟩
          · have j3 : (q3 == 0) = false := by simpa using g3
            have j0 : (e1 == 0) = false := by rw [HWy.out, g1, g2, orE_r rfl, orE_r rfl]; simpa using g3
            clear g1 g2 g3 HWy
            go_wp2_with fail
            refine Calls.mono (HH2.out _ HBw.out) ?_
            rintro e wc ⟨pa, ca, rfl, bb⟩
            have HCc : Hid (Below w0.heap.size w0 wc) := HB.out.trans (bb.mono HB.out.size)
            have HBc : Hid (Below w.heap.size w wc) := HBw.out.trans (bb.mono HBw.out.size)
            clear bb z0 z1 z2 z3 z4 z5 z6 z7
            obtain ⟨⟨z0, z1, z2, z3⟩, z4, z5, z6, z7⟩ := HBx.out wc HCc.out
            go_wp2_with fail
            refine Calls.mono (HG.out _ HBc.out) ?_
            rintro e wd ⟨rfl, bb⟩
            have HCd : Hid (Below w0.heap.size w0 wd) := HCc.out.trans (bb.mono HCc.out.size)
            have HBd : Hid (Below w.heap.size w wd) := HBc.out.trans (bb.mono HBc.out.size)
            clear bb z0 z1 z2 z3 z4 z5 z6 z7
            obtain ⟨⟨z0, z1, z2, z3⟩, z4, z5, z6, z7⟩ := HBx.out wd HCd.out
            go_wp2_with fail
            refine Calls.mono (HU.out _ HBd.out) ?_
            rintro e we ⟨rfl, bb⟩
            have HCe : Hid (Below w0.heap.size w0 we) := HCd.out.trans (bb.mono HCd.out.size)
            have HBe : Hid (Below w.heap.size w we) := HBd.out.trans (bb.mono HBd.out.size)
            clear bb z0 z1 z2 z3 z4 z5 z6 z7
            obtain ⟨⟨z0, z1, z2, z3⟩, z4, z5, z6, z7⟩ := HBx.out we HCe.out
            go_wp2_with fail
            refine Calls.mono (HAk.out _) ?_
            rintro e wf ⟨rfl, bb⟩
            have HBf : Hid (Below w.heap.size w wf) := HBe.out.trans (bb.mono HBe.out.size)
            clear bb z0 z1 z2 z3 z4 z5 z6 z7
            go_wp2_with fail
            go_ret
            exact ⟨rfl, HBf.out⟩
        · have j2 : (q2 == 0) = false := by simpa using g2
          have j0 : (e1 == 0) = false := by rw [HWy.out, g1, orE_r rfl, orE_l g2]; simpa using g2
          clear g1 g2 HWy
          go_wp2_with fail
          refine Calls.mono (HH2.out _ HBw.out) ?_
          rintro e wc ⟨pa, ca, rfl, bb⟩
          have HCc : Hid (Below w0.heap.size w0 wc) := HB.out.trans (bb.mono HB.out.size)
          have HBc : Hid (Below w.heap.size w wc) := HBw.out.trans (bb.mono HBw.out.size)
          clear bb z0 z1 z2 z3 z4 z5 z6 z7
          obtain ⟨⟨z0, z1, z2, z3⟩, z4, z5, z6, z7⟩ := HBx.out wc HCc.out
          go_wp2_with fail
          refine Calls.mono (HG.out _ HBc.out) ?_
          rintro e wd ⟨rfl, bb⟩
          have HCd : Hid (Below w0.heap.size w0 wd) := HCc.out.trans (bb.mono HCc.out.size)
          have HBd : Hid (Below w.heap.size w wd) := HBc.out.trans (bb.mono HBc.out.size)
          clear bb z0 z1 z2 z3 z4 z5 z6 z7
          obtain ⟨⟨z0, z1, z2, z3⟩, z4, z5, z6, z7⟩ := HBx.out wd HCd.out
          go_wp2_with fail
          refine Calls.mono (HU.out _ HBd.out) ?_
          rintro e we ⟨rfl, bb⟩
          have HCe : Hid (Below w0.heap.size w0 we) := HCd.out.trans (bb.mono HCd.out.size)
          have HBe : Hid (Below w.heap.size w we) := HBd.out.trans (bb.mono HBd.out.size)
          clear bb z0 z1 z2 z3 z4 z5 z6 z7
          obtain ⟨⟨z0, z1, z2, z3⟩, z4, z5, z6, z7⟩ := HBx.out we HCe.out
          go_wp2_with fail
          go_ret
          exact ⟨rfl, HBe.out⟩
      · have j1 : (q1 == 0) = false := by simpa using g1
        have j0 : (e1 == 0) = false := by rw [HWy.out, orE_l (by rw [orE_l g1]; exact g1), orE_l g1]; simpa using g1
        clear g1 HWy
        go_wp2_with fail
        refine Calls.mono (HH2.out _ HBw.out) ?_
        rintro e wc ⟨pa, ca, rfl, bb⟩
        have HCc : Hid (Below w0.heap.size w0 wc) := HB.out.trans (bb.mono HB.out.size)
        have HBc : Hid (Below w.heap.size w wc) := HBw.out.trans (bb.mono HBw.out.size)
        clear bb z0 z1 z2 z3 z4 z5 z6 z7
        obtain ⟨⟨z0, z1, z2, z3⟩, z4, z5, z6, z7⟩ := HBx.out wc HCc.out
        go_wp2_with fail
        refine Calls.mono (HG.out _ HBc.out) ?_
        rintro e wd ⟨rfl, bb⟩
        have HCd : Hid (Below w0.heap.size w0 wd) := HCc.out.trans (bb.mono HCc.out.size)
        have HBd : Hid (Below w.heap.size w wd) := HBc.out.trans (bb.mono HBc.out.size)
        clear bb z0 z1 z2 z3 z4 z5 z6 z7
        obtain ⟨⟨z0, z1, z2, z3⟩, z4, z5, z6, z7⟩ := HBx.out wd HCd.out
        go_wp2_with fail
        go_ret
        exact ⟨rfl, HBd.out⟩
end Go.Proofs.Ytnjjlnhchfoigab
