/- The walk of the law GrantsMore over this translation. -/
import Derived.Test.YtnjjlnhchfoigaaGrMay
import Derived.Test.YtnjjlnhchfoigaaGrNone
import Derived.Test.YtnjjlnhchfoigaaGrMoreP
import Derived.Test.YtnjjlnhchfoigaaGrMoreW0
import Derived.Test.YtnjjlnhchfoigaaGrMoreX
import Derived.Test.YtnjjlnhchfoigaaGrArgs
namespace Go.Proofs.Ytnjjlnhchfoigaa
open Go.RowKit
set_option linter.unusedVariables false
set_option linter.unusedSimpArgs false
set_option maxRecDepth 100000 in
set_option maxHeartbeats 16000000 in
theorem more_walk (u v c x q1 q2 : Value) (rs : List Ro) (bs : List Bi) (xr : Ro) (yb : Bi) (n : Bs) (gs : List Bs) (a : Ak) (w : World) (hg : Grs w u v rs bs) (hc : Rls w c xr.2.2) (hfo : FitO xr) (hq1 : Strs w q1 yb.2.2.2.2.1) (hq2 : Strs w q2 yb.2.2.2.2.2) (hfb : FitB yb)
    (hx : Strs w x gs) (hn : n.length ≤ maxLen) (hfg : FitS gs) (hfa : FitA a) (hlr : (rs.length + 1) * 56 ≤ 140737488355328) (hlb : (bs.length + 1) * 104 ≤ 140737488355328) :
    Calls Try.prog 5 #[.agg #[u, v], .agg #[.string (Ba xr.1), .string (Ba xr.2.1), c], bindV yb q1 q2, .agg #[.string (Ba n), x], askV a] w fun e w' => e = .returned (.bool true) ∧ Below w.heap.size w w' := by
  obtain ⟨p, c1, rfl, hn1⟩ := Sq.form hg.ros
  obtain ⟨p2, c2, rfl, hn2⟩ := Sq.form hg.bis
  obtain ⟨px, cx, rfl, hnx⟩ := hx.form
  obtain ⟨pc, cc, rfl, hnc⟩ := Sq.form hc
  obtain ⟨pq1, cq1, rfl, hnq1⟩ := hq1.form
  obtain ⟨pq2, cq2, rfl, hnq2⟩ := hq2.form
  have HM1 : Hid (∀ w1, Below w.heap.size w w1 → Calls Try.prog 13 #[.agg #[.slice p rs.length c1, .slice p2 bs.length c2], .agg #[.string (Ba n), .slice px gs.length cx], askV a] w1 fun e w' => e = .returned (.tuple #[.bool (mayB rs bs n gs a), .int .i64 (whyMayI rs bs n gs a)]) ∧ Below w1.heap.size w1 w') := fun w1 hb => may_any _ _ _ rs bs n gs a w1 (hg.below hb) (hx.below hb) hn hfg hfa
  have HM2 : Hid (∀ w1 y1 y2, Below w.heap.size w w1 → Ros w1 y1 (rs ++ [xr]) → Bis w1 y2 (bs ++ [yb]) → Calls Try.prog 13 #[.agg #[y1, y2], .agg #[.string (Ba n), .slice px gs.length cx], askV a] w1 fun e w' => e = .returned (.tuple #[.bool (mayB (rs ++ [xr]) (bs ++ [yb]) n gs a), .int .i64 (whyMayI (rs ++ [xr]) (bs ++ [yb]) n gs a)]) ∧ Below w1.heap.size w1 w') := fun w1 y1 y2 hb k1 k2 => may_any _ _ _ (rs ++ [xr]) (bs ++ [yb]) n gs a w1
    ⟨k1, k2, fun r hr => by
      rcases List.mem_append.1 hr with hr | hr
      · exact hg.fitO r hr
      · rw [List.mem_singleton.1 hr]; exact hfo, fun r hr => by
      rcases List.mem_append.1 hr with hr | hr
      · exact hg.fitB r hr
      · rw [List.mem_singleton.1 hr]; exact hfb⟩ (hx.below hb) hn hfg hfa
  have HN : Hid (∀ w, Calls Try.prog 21 #[] w fun e w' => e = .returned (.bool true) ∧ Below w.heap.size w w') := none_any
  have HLaw : Hid ((if whyMayI rs bs n gs a ≠ 0 ∨ whyMayI (rs ++ [xr]) (bs ++ [yb]) n gs a ≠ 0 then (!mayB rs bs n gs a && decide (whyMayI rs bs n gs a ≠ 0)) || !mayB (rs ++ [xr]) (bs ++ [yb]) n gs a
     else !mayB rs bs n gs a || mayB (rs ++ [xr]) (bs ++ [yb]) n gs a) = true) := more_law rs bs xr yb n gs a
  generalize mayB rs bs n gs a = m1 at *
  generalize whyMayI rs bs n gs a = e1 at *
  generalize mayB (rs ++ [xr]) (bs ++ [yb]) n gs a = m2 at *
  generalize whyMayI (rs ++ [xr]) (bs ++ [yb]) n gs a = e2 at *
  have HRs : Hid (Ros w (.slice p rs.length c1) rs) := hg.ros
  have HBs : Hid (Bis w (.slice p2 bs.length c2) bs) := hg.bis
  have HQr : Hid (QRo w xr [.string (Ba xr.1), .string (Ba xr.2.1), .slice pc xr.2.2.length cc]) := ⟨_, rfl, hc⟩
  obtain ⟨vb, kd, sp, nm⟩ := a
  obtain ⟨b1, b2, b3, b4, b5, b6⟩ := yb
  have HQb : Hid (QBi w (b1, b2, b3, b4, b5, b6) [.string (Ba b1), .string (Ba b2), .string (Ba b3), .bool b4, .slice pq1 b5.length cq1, .slice pq2 b6.length cq2]) := ⟨_, _, rfl, hq1, hq2⟩
  dsimp only [askV, bindV] at *
  clear hg hc hfo hq1 hq2 hfb hx hn hfg hfa
  have HLr : Hid ((rs.length + 1) * 56 ≤ 140737488355328) := hlr
  have HLb : Hid ((bs.length + 1) * 104 ≤ 140737488355328) := hlb
  clear hlr hlb
  generalize hl1 : rs.length = l1 at *
  generalize hl2 : bs.length = l2 at *
  have HL1 : Hid (rs.length = l1) := hl1
  have HL2 : Hid (bs.length = l2) := hl2
  clear hl1 hl2
  generalize gs.length = l3 at *
  generalize b5.length = l5 at *
  generalize b6.length = l6 at *
  generalize xr.2.2.length = l7 at *
  generalize Ba n = yn at *
  generalize Ba vb = s1 at *
  generalize Ba kd = s2 at *
  generalize Ba sp = s3 at *
  generalize Ba nm = s4 at *
  obtain ⟨t1, ht1⟩ : ∃ t1, t1 = Ba b1 := ⟨_, rfl⟩
  obtain ⟨t2, ht2⟩ : ∃ t2, t2 = Ba b2 := ⟨_, rfl⟩
  obtain ⟨t3, ht3⟩ : ∃ t3, t3 = Ba b3 := ⟨_, rfl⟩
  obtain ⟨t4, ht4⟩ : ∃ t4, t4 = Ba xr.1 := ⟨_, rfl⟩
  obtain ⟨t5, ht5⟩ : ∃ t5, t5 = Ba xr.2.1 := ⟨_, rfl⟩
  rw [← ht1, ← ht2, ← ht3, ← ht4, ← ht5]
  rw [← ht1, ← ht2, ← ht3] at HQb
  rw [← ht4, ← ht5] at HQr
  clear ht1 ht2 ht3 ht4 ht5
  obtain ⟨w0, hw0⟩ : ∃ w0, w0 = ((((w.alloc (.cells #[.slice p l1 c1, .slice p2 l2 c2] 25)).alloc (.cells #[.string t4, .string t5, .slice pc l7 cc] 47)).alloc (.cells #[.string t1, .string t2, .string t3, .bool b4, .slice pq1 l5 cq1, .slice pq2 l6 cq2] 49)).alloc (.cells #[.string yn, .slice px l3 cx] 34)).alloc (.cells #[.string s1, .string s2, .string s3, .string s4] 27) := ⟨_, rfl⟩
  have HBx : Hid (∀ w', Below w0.heap.size w0 w' → _) := fun w' h => bxs5 (by rw [hw0] at h; exact h)
  have HB0 : Hid (Below w.heap.size w w0) := by
    show Below _ _ _
    rw [hw0]
    exact (((((Below.refl _ _).alloc (Nat.le_refl _) _).alloc (by simp) _).alloc (by first | (simp; done) | (simp; omega)) _).alloc (by first | (simp; done) | (simp; omega)) _).alloc (by first | (simp; done) | (simp; omega)) _
  have HSz : Hid (w0.heap.size = w.heap.size + 5) := by show _ = _; rw [hw0]; simp
  have HW0 : Hid (w0 = ((((w.alloc (.cells #[.slice p l1 c1, .slice p2 l2 c2] 25)).alloc (.cells #[.string t4, .string t5, .slice pc l7 cc] 47)).alloc (.cells #[.string t1, .string t2, .string t3, .bool b4, .slice pq1 l5 cq1, .slice pq2 l6 cq2] 49)).alloc (.cells #[.string yn, .slice px l3 cx] 34)).alloc (.cells #[.string s1, .string s2, .string s3, .string s4] 27)) := hw0
  clear hw0
  unfold maxLen at hn1 hn2 hnx hnc hnq1 hnq2
  go_enter Try.func5, Try.ntmps5
  go_wp2_with fail
  rw [← HW0.out]
  refine Calls.mono (HM1.out _ HB0.out) ?_
  rintro e wa ⟨rfl, bb⟩
  have HCa : Hid (Below w0.heap.size w0 wa) := bb
  have HBa : Hid (Below w.heap.size w wa) := HB0.out.trans (bb.mono HB0.out.size)
  clear bb
  obtain ⟨⟨x0, x1⟩, ⟨r0, r1, r2⟩, ⟨i0, i1, i2, i3, i4, i5⟩, ⟨y0, y1⟩, z0, z1, z2, z3⟩ := HBx.out wa HCa.out
  go_wp2_with fail
  have HC : Hid (∀ w', Below wa.heap.size wa w' → _) := fun w' h => HBx.out w' (HCa.out.trans (h.mono HCa.out.size))
  refine more_reg (bg := w.heap.size) (br := w.heap.size + 1) (bb := w.heap.size + 1 + 1) (w0 := w) (rs := rs) (bs := bs) (xr := xr) (yb := (b1, b2, b3, b4, b5, b6)) (fun _ _ d _ _ h => by cases d <;> exact h) HRs.out HBs.out HBa.out (by rw [HL1.out]; exact HLr.out) (by rw [HL2.out]; exact HLb.out) HQr.out HQb.out (fun w' hw' => ?_) ?_
  · obtain ⟨k0, k1, k2, _⟩ := HC.out w' hw'
    exact ⟨k0, k1, k2⟩
  intro b qa qb qc qd qe qf x25 x27 x31 x33 wb hB hO hI k0 k1 hwb hlt
  have HB : Hid (Below wa.heap.size wa wb) := hB
  have HBb : Hid (Below w.heap.size w wb) := HBa.out.trans (hB.mono HBa.out.size)
  have HRo : Hid (Ros wb (.slice qa qb qc) (rs ++ [xr])) := hO.ros HBb.out
  have HBi : Hid (Bis wb (.slice qd qe qf) (bs ++ [(b1, b2, b3, b4, b5, b6)])) := hI.bis HBb.out
  obtain ⟨_, _, _, ⟨y0', y1'⟩, z0', z1', z2', z3'⟩ := HC.out wb hB
  clear hB hO hI x0 x1 r0 r1 r2 i0 i1 i2 i3 i4 i5 y0 y1 z0 z1 z2 z3 hwb hlt
  unfold moreF
  go_wp2_with fail
  refine Calls.mono (HM2.out _ _ _ HBb.out HRo.out HBi.out) ?_
  rintro e wc ⟨rfl, hc⟩
  have HBc : Hid (Below w.heap.size w wc) := HBb.out.trans (hc.mono HBb.out.size)
  clear hc k0 k1 y0' y1' z0' z1' z2' z3'
  go_wp2_with fail
  refine Calls.mono (HN.out _) ?_
  rintro e wd ⟨rfl, hd⟩
  have HBd : Hid (Below w.heap.size w wd) := HBc.out.trans (hd.mono HBc.out.size)
  clear hd
  have HE : Hid (decide (e1 ≠ 0) = (e1 != 0) ∧ decide (e2 ≠ 0) = (e2 != 0)) := ⟨by by_cases h : e1 = 0 <;> simp [h], by by_cases h : e2 = 0 <;> simp [h]⟩
  clear HL1 HL2 HM1 HM2 HN HC HBx HRs HBs HLr HLb HQr HQb HRo HBi HCa HBa HB HBb HBc HSz HW0 HB0
  by_cases h1 : e1 = 0
  · have b1 : (e1 != 0) = false := by simp [h1]
    by_cases h2 : e2 = 0
    · have b2 : (e2 != 0) = false := by simp [h2]
      have HL : Hid ((!m1 || m2) = true) := by
        have h := HLaw.out
        rw [if_neg (by simp [h1, h2])] at h
        exact h
      clear HLaw HE h1 h2
      cases m1 <;> cases m2 <;> first | exact absurd HL.out (by decide) | (clear HL; go_wp2_with fail; go_ret; exact ⟨rfl, HBd.out⟩)
    · have b2 : (e2 != 0) = true := by simp [h2]
      have HL : Hid (((!m1 && (e1 != 0)) || !m2) = true) := by
        have h := HLaw.out
        rw [if_pos (Or.inr h2), HE.out.1] at h
        exact h
      rw [b1] at HL
      clear HLaw HE h1 h2
      cases m1 <;> cases m2 <;> first | exact absurd HL.out (by decide) | (clear HL; go_wp2_with fail; go_ret; exact ⟨rfl, HBd.out⟩)
  · have b1 : (e1 != 0) = true := by simp [h1]
    have HL : Hid (((!m1 && (e1 != 0)) || !m2) = true) := by
      have h := HLaw.out
      rw [if_pos (Or.inl h1), HE.out.1] at h
      exact h
    rw [b1] at HL
    clear HLaw HE h1
    cases m1 <;> cases m2 <;> first | exact absurd HL.out (by decide) | (clear HL; go_wp2_with fail; go_ret; exact ⟨rfl, HBd.out⟩)
end Go.Proofs.Ytnjjlnhchfoigaa
