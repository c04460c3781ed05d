/- Contracts over this translation: grants.checkHolder, checkHeld, May. -/
import Derived.Test.YtnjjlnhchfoigabDoorGrHeld
import Derived.Test.YtnjjlnhchfoigabDoorGrAllows
import Derived.Test.YtnjjlnhchfoigabDoorGrUser
namespace Go.Proofs.YtnjjlnhchfoigabDoor
open Go.RowKit
set_option linter.unusedVariables false
set_option linter.unusedSimpArgs false
theorem rules_len {l : List Rl} (h : rulesI l = 0) : l.length ≤ 8 := by
  unfold rulesI at h
  have h1 := (orE_zero.1 h).1
  by_cases g : 8 < l.length
  · rw [decide_eq_true g] at h1; cases h1
  · omega
theorem firstA_mem {α : Type} {f : List α → α → Int} : ∀ {r p : List α}, firstA f p r = 0 → ∀ x ∈ r, ∃ q, f q x = 0
  | [], _, _, x, hx => by simp at hx
  | y :: r, p, h, x, hx => by
    rw [firstA] at h
    by_cases hy : f p y = 0
    · rw [if_pos hy] at h
      rcases List.mem_cons.1 hx with rfl | hx
      · exact ⟨p, hy⟩
      · exact firstA_mem h x hx
    · rw [if_neg hy] at h
      exact absurd h hy
theorem gr_ok {rs : List Ro} {bs : List Bi} (h : grI rs bs = 0) : bs.length ≤ 12 ∧ (∀ r ∈ rs, rulesI r.2.2 = 0) ∧ ∀ r ∈ rs, r.2.2.length ≤ 8 := by
  unfold grI at h
  obtain ⟨h1, h2⟩ := orE_zero.1 h
  have hr : ∀ r ∈ rs, rulesI r.2.2 = 0 := fun r hr => by
    obtain ⟨q, hq⟩ := firstA_mem (orE_zero.1 h2).1 r hr
    exact (orE_zero.1 (orE_zero.1 hq).2).2
  refine ⟨?_, hr, fun r h => rules_len (hr r h)⟩
  by_cases g : 12 < bs.length
  · rw [decide_eq_true g, Bool.or_true] at h1; cases h1
  · omega
theorem hold_1 {rs : List Ro} {bs : List Bi} {n : Bs} {gs : List Bs} (h : grI rs bs ≠ 0) : holdI rs bs n gs = grI rs bs := orE_l h
theorem hold_2 {rs : List Ro} {bs : List Bi} {n : Bs} {gs : List Bs} (h : grI rs bs = 0) : holdI rs bs n gs = userI n gs := orE_r h
/-- two boxes of two cells -/
theorem bxs2 {w w1 : World} {a b c d : Value} {t s : TypeId} (h : Below ((w.alloc (.cells #[a, b] t)).alloc (.cells #[c, d] s)).heap.size ((w.alloc (.cells #[a, b] t)).alloc (.cells #[c, d] s)) w1) :
    w1.cell? ⟨w.heap.size, 0, none⟩ = some a ∧ w1.cell? ⟨w.heap.size, 1, none⟩ = some b ∧ w1.cell? ⟨w.heap.size + 1, 0, none⟩ = some c ∧ w1.cell? ⟨w.heap.size + 1, 1, none⟩ = some d := by
  have h0 : Below (w.alloc (.cells #[a, b] t)).heap.size (w.alloc (.cells #[a, b] t)) w1 := ((Below.refl _ _).alloc (Nat.le_refl _) _).trans (h.mono (by simp))
  obtain ⟨a1, a2⟩ := gbox2 h0
  obtain ⟨a3, a4⟩ := gbox2 h
  have hs : (w.alloc (.cells #[a, b] t)).heap.size = w.heap.size + 1 := by simp
  rw [hs] at a3 a4
  exact ⟨a1, a2, a3, a4⟩
set_option maxRecDepth 100000 in
set_option maxHeartbeats 4000000 in
theorem holder_any (u v x : Value) (rs : List Ro) (bs : List Bi) (n : Bs) (gs : List Bs) (w : World) (hg : Grs w u v rs bs) (hx : Strs w x gs) (hn : n.length ≤ maxLen) (hfg : FitS gs) :
    Calls Tryd.prog 36 #[.agg #[u, v], .agg #[.string (Ba n), x]] w fun e w' => e = .returned (.int .i64 (holdI rs bs n gs)) ∧ Below w.heap.size w w' := by
  obtain ⟨p, c, rfl, hn1⟩ := Sq.form hg.ros
  obtain ⟨p2, c2, rfl, hn2⟩ := Sq.form hg.bis
  obtain ⟨px, cx, rfl, hnx⟩ := hx.form
  have HG : Hid (∀ w1, Below w.heap.size w w1 → Calls Tryd.prog 51 #[.agg #[.slice p rs.length c, .slice p2 bs.length c2]] w1 fun e w' => e = .returned (.int .i64 (grI rs bs)) ∧ Below w1.heap.size w1 w') := fun w1 hb => grants_any _ _ rs bs w1 (hg.below hb)
  have HU : Hid (∀ w1, Below w.heap.size w w1 → Calls Tryd.prog 52 #[.agg #[.string (Ba n), .slice px gs.length cx]] w1 fun e w' => e = .returned (.int .i64 (userI n gs)) ∧ Below w1.heap.size w1 w') := fun w1 hb => user_any n _ gs w1 hn (hx.below hb) hfg
  have HE1 : Hid (grI rs bs ≠ 0 → holdI rs bs n gs = grI rs bs) := hold_1
  have HE2 : Hid (grI rs bs = 0 → holdI rs bs n gs = userI n gs) := hold_2
  have HBx : Hid (∀ w1, Below ((w.alloc (.cells #[.slice p rs.length c, .slice p2 bs.length c2] 25)).alloc (.cells #[.string (Ba n), .slice px gs.length cx] 28)).heap.size ((w.alloc (.cells #[.slice p rs.length c, .slice p2 bs.length c2] 25)).alloc (.cells #[.string (Ba n), .slice px gs.length cx] 28)) w1 →
      w1.cell? ⟨w.heap.size, 0, none⟩ = some (.slice p rs.length c) ∧ w1.cell? ⟨w.heap.size, 1, none⟩ = some (.slice p2 bs.length c2) ∧ w1.cell? ⟨w.heap.size + 1, 0, none⟩ = some (.string (Ba n)) ∧ w1.cell? ⟨w.heap.size + 1, 1, none⟩ = some (.slice px gs.length cx)) := fun w1 h => bxs2 h
  obtain ⟨w0, hw0⟩ : ∃ w0, w0 = (w.alloc (.cells #[.slice p rs.length c, .slice p2 bs.length c2] 25)).alloc (.cells #[.string (Ba n), .slice px gs.length cx] 28) := ⟨_, rfl⟩
  have hB0 : Below w.heap.size w w0 := by rw [hw0]; exact ((Below.refl _ _).alloc (Nat.le_refl _) _).alloc (by simp) _
  have HB0 : Hid (Below w.heap.size w w0) := hB0
  rw [← hw0] at HBx
  have HW0 : Hid (w0 = (w.alloc (.cells #[.slice p rs.length c, .slice p2 bs.length c2] 25)).alloc (.cells #[.string (Ba n), .slice px gs.length cx] 28)) := hw0
  clear hg hx hn hfg hw0 hB0
  generalize rs.length = l1 at *
  generalize bs.length = l2 at *
  generalize gs.length = l3 at *
  generalize Ba n = yn at *
  generalize holdI rs bs n gs = res at *
  generalize grI rs bs = e1 at *
  generalize userI n gs = e2 at *
  unfold maxLen at hn1 hn2 hnx
  by_cases h1 : e1 = 0
  · have b1 : (e1 != 0) = false := by simp [h1]
    have HX : Hid (res = e2) := HE2.out h1
    clear HE1 HE2 h1
    go_enter Tryd.func36, Tryd.ntmps36
    go_wp2_with fail
    rw [← HW0.out]
    refine Calls.mono (HG.out _ HB0.out) ?_
    rintro e w1 ⟨rfl, bb⟩
    have HB1 : Hid (Below w.heap.size w w1) := HB0.out.trans (bb.mono HB0.out.size)
    obtain ⟨x0, x1, x2, x3⟩ := HBx.out w1 bb
    clear bb
    go_wp2_with fail
    refine Calls.mono (HU.out _ HB1.out) ?_
    rintro e w2 ⟨rfl, bb⟩
    have HB2 : Hid (Below w.heap.size w w2) := HB1.out.trans (bb.mono HB1.out.size)
    clear bb
    go_wp2_with fail
    go_ret
    exact ⟨by rw [HX.out]; rfl, HB2.out⟩
  · have b1 : (e1 != 0) = true := by simpa using h1
    have HX : Hid (res = e1) := HE1.out h1
    clear HE1 HE2 h1
    go_enter Tryd.func36, Tryd.ntmps36
    go_wp2_with fail
    rw [← HW0.out]
    refine Calls.mono (HG.out _ HB0.out) ?_
    rintro e w1 ⟨rfl, bb⟩
    have HB1 : Hid (Below w.heap.size w w1) := HB0.out.trans (bb.mono HB0.out.size)
    clear bb
    go_wp2_with fail
    go_ret
    exact ⟨by rw [HX.out]; rfl, HB1.out⟩
theorem why_1 {rs : List Ro} {bs : List Bi} {n : Bs} {gs : List Bs} {sp : Bs} (h : holdI rs bs n gs ≠ 0) : whyI rs bs n gs sp = holdI rs bs n gs := orE_l h
theorem why_2 {rs : List Ro} {bs : List Bi} {n : Bs} {gs : List Bs} {sp : Bs} (h : holdI rs bs n gs = 0) : whyI rs bs n gs sp = ifI sp := orE_r h
set_option maxRecDepth 100000 in
set_option maxHeartbeats 4000000 in
theorem heldE_any (u v x : Value) (rs : List Ro) (bs : List Bi) (n : Bs) (gs : List Bs) (sp : Bs) (w : World) (hg : Grs w u v rs bs) (hx : Strs w x gs) (hn : n.length ≤ maxLen) (hfg : FitS gs) (hsp : sp.length ≤ maxLen) :
    Calls Tryd.prog 16 #[.agg #[u, v], .agg #[.string (Ba n), x], .string (Ba sp)] w fun e w' => e = .returned (.int .i64 (whyI rs bs n gs sp)) ∧ Below w.heap.size w w' := by
  obtain ⟨p, c, rfl, hn1⟩ := Sq.form hg.ros
  obtain ⟨p2, c2, rfl, hn2⟩ := Sq.form hg.bis
  obtain ⟨px, cx, rfl, hnx⟩ := hx.form
  have HG : Hid (∀ w1, Below w.heap.size w w1 → Calls Tryd.prog 36 #[.agg #[.slice p rs.length c, .slice p2 bs.length c2], .agg #[.string (Ba n), .slice px gs.length cx]] w1 fun e w' => e = .returned (.int .i64 (holdI rs bs n gs)) ∧ Below w1.heap.size w1 w') := fun w1 hb => holder_any _ _ _ rs bs n gs w1 (hg.below hb) (hx.below hb) hn hfg
  have HU : Hid (∀ w1, Calls Tryd.prog 37 #[.string (Ba sp)] w1 fun e w' => e = .returned (.int .i64 (ifI sp)) ∧ w' = w1) := fun w1 => if_any sp w1 hsp
  have HE1 : Hid (holdI rs bs n gs ≠ 0 → whyI rs bs n gs sp = holdI rs bs n gs) := why_1
  have HE2 : Hid (holdI rs bs n gs = 0 → whyI rs bs n gs sp = ifI sp) := why_2
  obtain ⟨w0, hw0⟩ : ∃ w0, w0 = (w.alloc (.cells #[.slice p rs.length c, .slice p2 bs.length c2] 25)).alloc (.cells #[.string (Ba n), .slice px gs.length cx] 28) := ⟨_, rfl⟩
  have hB0 : Below w.heap.size w w0 := by rw [hw0]; exact ((Below.refl _ _).alloc (Nat.le_refl _) _).alloc (by simp) _
  have HB0 : Hid (Below w.heap.size w w0) := hB0
  have HW0 : Hid (w0 = (w.alloc (.cells #[.slice p rs.length c, .slice p2 bs.length c2] 25)).alloc (.cells #[.string (Ba n), .slice px gs.length cx] 28)) := hw0
  clear hg hx hn hfg hw0 hB0 hsp
  generalize rs.length = l1 at *
  generalize bs.length = l2 at *
  generalize gs.length = l3 at *
  generalize Ba n = yn at *
  generalize Ba sp = ys at *
  generalize whyI rs bs n gs sp = res at *
  generalize holdI rs bs n gs = e1 at *
  generalize ifI sp = e2 at *
  unfold maxLen at hn1 hn2 hnx
  by_cases h1 : e1 = 0
  · have b1 : (e1 != 0) = false := by simp [h1]
    have HX : Hid (res = e2) := HE2.out h1
    clear HE1 HE2 h1
    go_enter Tryd.func16, Tryd.ntmps16
    go_wp2_with fail
    rw [← HW0.out]
    refine Calls.mono (HG.out _ HB0.out) ?_
    rintro e w1 ⟨rfl, bb⟩
    have HB1 : Hid (Below w.heap.size w w1) := HB0.out.trans (bb.mono HB0.out.size)
    clear bb
    go_wp2_with fail
    refine Calls.mono (HU.out _) ?_
    rintro e w2 ⟨rfl, rfl⟩
    go_wp2_with fail
    go_ret
    exact ⟨by rw [HX.out]; rfl, HB1.out⟩
  · have b1 : (e1 != 0) = true := by simpa using h1
    have HX : Hid (res = e1) := HE1.out h1
    clear HE1 HE2 h1
    go_enter Tryd.func16, Tryd.ntmps16
    go_wp2_with fail
    rw [← HW0.out]
    refine Calls.mono (HG.out _ HB0.out) ?_
    rintro e w1 ⟨rfl, bb⟩
    have HB1 : Hid (Below w.heap.size w w1) := HB0.out.trans (bb.mono HB0.out.size)
    clear bb
    go_wp2_with fail
    go_ret
    exact ⟨by rw [HX.out]; rfl, HB1.out⟩
end Go.Proofs.YtnjjlnhchfoigabDoor
