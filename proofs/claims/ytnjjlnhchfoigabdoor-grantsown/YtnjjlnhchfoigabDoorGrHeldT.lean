/- Contract over this translation: grants.Held. -/
import Derived.Test.YtnjjlnhchfoigabDoorGrOwn
import Derived.Test.YtnjjlnhchfoigabDoorGrTop
namespace Go.Proofs.YtnjjlnhchfoigabDoor
open Go.RowKit
set_option linter.unusedVariables false
set_option linter.unusedSimpArgs false
theorem cI_len {s : Bs} (h : cI s = 0) : s.length ≤ 63 := by
  have := checkI_size h
  rw [ba_size] at this
  exact this
theorem word_len {s : Bs} (h : wordI s = 0) : s.length ≤ 63 := by
  by_cases hs : s = [42]
  · rw [hs]; decide
  · rw [word_else hs] at h; exact cI_len h
theorem rule_ok {r : Rl} (h : ruleI r = 0) : Small r := by
  unfold ruleI at h
  obtain ⟨h1, h2⟩ := orE_zero.1 h
  obtain ⟨_, h3⟩ := orE_zero.1 h2
  obtain ⟨h4, h5⟩ := orE_zero.1 h3
  obtain ⟨h6, h7⟩ := orE_zero.1 h5
  have hb : bigB r = false := by
    cases hb : bigB r with
    | false => rfl
    | true => rw [hb] at h1; cases h1
  unfold bigB at hb
  simp only [Bool.or_eq_false_iff, decide_eq_false_iff_not] at hb
  obtain ⟨⟨b1, b2⟩, b3⟩ := hb
  exact ⟨⟨by omega, fun s hs => word_len (firstE_zero.1 h4 s hs)⟩, ⟨by omega, fun s hs => word_len (firstE_zero.1 h6 s hs)⟩, by omega, fun s hs => cI_len (firstE_zero.1 h7 s hs)⟩
theorem rules_ok {l : List Rl} (h : rulesI l = 0) : ∀ r ∈ l, ruleI r = 0 := fun r hr => firstE_zero.1 (orE_zero.1 h).2 r hr
theorem roleOf_mem {rs : List Ro} {b : Bi} {r : Rl} (h : r ∈ roleOf rs b) : ∃ o ∈ rs, r ∈ o.2.2 := by
  induction rs with
  | nil => cases h
  | cons y l ih =>
    rw [roleOf] at h
    split at h
    · exact ⟨y, by simp, h⟩
    · obtain ⟨o, ho, hr⟩ := ih h
      exact ⟨o, by simp [ho], hr⟩
theorem held_ok {rs : List Ro} {bs : List Bi} {n : Bs} {gs : List Bs} {sp : Bs} (h : grI rs bs = 0) : ∀ r ∈ heldP rs bs n gs sp, ruleI r = 0 := fun r hr => by
  obtain ⟨b, _, _, hm⟩ := mem_held.1 hr
  obtain ⟨o, ho, hr⟩ := roleOf_mem hm
  exact rules_ok ((gr_ok h).2.1 o ho) r hr
/-- rules that were told: a row of one's own, of lists of one's own -/
def Told (B : Nat) (w : World) (y : Value) (l : List Rl) : Prop := ∃ L : List RV, L.map (·.1) = l ∧ w.ownsRow B 40 3 y L.length (flatG L) ∧ StO B w y L
theorem Told.rls {B : Nat} {w : World} {y : Value} {l : List Rl} (h : Told B w y l) : Rls w y l := by
  obtain ⟨L, hm, ho, hs⟩ := h
  rw [← hm]
  exact rls_of_owns ho hs.stg
theorem Told.below {B : Nat} {w w' : World} {y : Value} {l : List Rl} (h : Told B w y l) (hb : Below w.heap.size w w') : Told B w' y l := by
  obtain ⟨L, hm, ho, hs⟩ := h
  exact ⟨L, hm, own_belowG ho hb, hs.below hb⟩
theorem Told.low {B B' : Nat} {w : World} {y : Value} {l : List Rl} (h : Told B w y l) (hb : B' ≤ B) : Told B' w y l := by
  obtain ⟨L, hm, ho, hs⟩ := h
  exact ⟨L, hm, own_low ho hb, fun p hp => ⟨⟨(hs p hp).1.1.low hb, (hs p hp).1.2⟩, ⟨(hs p hp).2.1.1.low hb, (hs p hp).2.1.2⟩, ⟨(hs p hp).2.2.1.low hb, (hs p hp).2.2.2⟩⟩⟩
theorem heldE_none {rs : List Ro} {bs : List Bi} {n : Bs} {gs : List Bs} {sp : Bs} (h : whyI rs bs n gs sp ≠ 0) : heldE rs bs n gs sp = [] := if_neg h
theorem heldE_some {rs : List Ro} {bs : List Bi} {n : Bs} {gs : List Bs} {sp : Bs} (h : whyI rs bs n gs sp = 0) : heldE rs bs n gs sp = heldP rs bs n gs sp := if_pos h
theorem why_gr {rs : List Ro} {bs : List Bi} {n : Bs} {gs : List Bs} {sp : Bs} (h : whyI rs bs n gs sp = 0) : grI rs bs = 0 := (orE_zero.1 (orE_zero.1 h).1).1
set_option maxRecDepth 100000 in
set_option maxHeartbeats 4000000 in
theorem heldT_any (u v x : Value) (rs : List Ro) (bs : List Bi) (n : Bs) (gs : List Bs) (sp : Bs) (w : World) (hg : Grs w u v rs bs) (hx : Strs w x gs) (hn : n.length ≤ maxLen) (hfg : FitS gs) (hsp : sp.length ≤ maxLen) :
    Calls Tryd.prog 5 #[.agg #[u, v], .agg #[.string (Ba n), x], .string (Ba sp)] w fun e w' => ∃ y, e = .returned (.tuple #[y, .int .i64 (whyI rs bs n gs sp)]) ∧ Told w.heap.size w' y (heldE rs bs n gs sp) ∧ Below w.heap.size w w' := by
  obtain ⟨p, c, rfl, hn1⟩ := Sq.form hg.ros
  obtain ⟨p2, c2, rfl, hn2⟩ := Sq.form hg.bis
  obtain ⟨px, cx, rfl, hnx⟩ := hx.form
  have HG : Hid (∀ w1, Below w.heap.size w w1 → Calls Tryd.prog 16 #[.agg #[.slice p rs.length c, .slice p2 bs.length c2], .agg #[.string (Ba n), .slice px gs.length cx], .string (Ba sp)] w1 fun e w' => e = .returned (.int .i64 (whyI rs bs n gs sp)) ∧ Below w1.heap.size w1 w') := fun w1 hb => heldE_any _ _ _ rs bs n gs sp w1 (hg.below hb) (hx.below hb) hn hfg hsp
  have HH : Hid (whyI rs bs n gs sp = 0 → ∀ w1, Below w.heap.size w w1 → Calls Tryd.prog 18 #[.agg #[.slice p rs.length c, .slice p2 bs.length c2], .agg #[.string (Ba n), .slice px gs.length cx], .string (Ba sp)] w1 fun e w' => ∃ y, e = .returned y ∧ Rls w' y (heldP rs bs n gs sp) ∧ (heldP rs bs n gs sp).length ≤ 96 ∧ Below w1.heap.size w1 w') := fun h0 w1 hb => by
    obtain ⟨h12, _, h8⟩ := gr_ok (why_gr h0)
    refine (held_any _ _ _ rs bs n gs sp w1 (hg.below hb) (hx.below hb) h12 h8).mono ?_
    rintro e w2 ⟨y, L, rfl, hm, ho, hs, h96, hb2⟩
    exact ⟨y, rfl, by rw [← hm]; exact rls_of_owns ho (hs.below hb2), by rw [← hm, List.length_map]; exact h96, hb2⟩
  have HO : Hid (whyI rs bs n gs sp = 0 → ∀ y w1, Rls w1 y (heldP rs bs n gs sp) → (heldP rs bs n gs sp).length ≤ 96 → Calls Tryd.prog 17 #[y] w1 fun e w' => ∃ z, e = .returned z ∧ Told w1.heap.size w' z (heldP rs bs n gs sp) ∧ Below w1.heap.size w1 w') := fun h0 y w1 hr h96 => by
    refine (own_any y _ w1 hr h96 (fun r hr => rule_ok (held_ok (why_gr h0) r hr))).mono ?_
    rintro e w2 ⟨z, L, rfl, hm, ho, hs, hb2⟩
    exact ⟨z, rfl, ⟨L, hm, ho, hs⟩, hb2⟩
  have HE1 : Hid (whyI rs bs n gs sp ≠ 0 → heldE rs bs n gs sp = []) := heldE_none
  have HE2 : Hid (whyI rs bs n gs sp = 0 → heldE rs bs n gs sp = heldP rs bs n gs sp) := heldE_some
  have HBx : Hid (∀ w1, Below ((w.alloc (.cells #[.slice p rs.length c, .slice p2 bs.length c2] 25)).alloc (.cells #[.string (Ba n), .slice px gs.length cx] 28)).heap.size ((w.alloc (.cells #[.slice p rs.length c, .slice p2 bs.length c2] 25)).alloc (.cells #[.string (Ba n), .slice px gs.length cx] 28)) w1 →
      w1.cell? ⟨w.heap.size, 0, none⟩ = some (.slice p rs.length c) ∧ w1.cell? ⟨w.heap.size, 1, none⟩ = some (.slice p2 bs.length c2) ∧ w1.cell? ⟨w.heap.size + 1, 0, none⟩ = some (.string (Ba n)) ∧ w1.cell? ⟨w.heap.size + 1, 1, none⟩ = some (.slice px gs.length cx)) := fun w1 h => bxs2 h
  obtain ⟨w0, hw0⟩ : ∃ w0, w0 = (w.alloc (.cells #[.slice p rs.length c, .slice p2 bs.length c2] 25)).alloc (.cells #[.string (Ba n), .slice px gs.length cx] 28) := ⟨_, rfl⟩
  have hB0 : Below w.heap.size w w0 := by rw [hw0]; exact ((Below.refl _ _).alloc (Nat.le_refl _) _).alloc (by simp) _
  have HB0 : Hid (Below w.heap.size w w0) := hB0
  rw [← hw0] at HBx
  have HW0 : Hid (w0 = (w.alloc (.cells #[.slice p rs.length c, .slice p2 bs.length c2] 25)).alloc (.cells #[.string (Ba n), .slice px gs.length cx] 28)) := hw0
  clear hg hx hn hfg hw0 hB0 hsp
  generalize heldE rs bs n gs sp = R at *
  generalize heldP rs bs n gs sp = H at *
  generalize rs.length = l1 at *
  generalize bs.length = l2 at *
  generalize gs.length = l3 at *
  generalize Ba n = yn at *
  generalize Ba sp = ys at *
  generalize whyI rs bs n gs sp = e1 at *
  unfold maxLen at hn1 hn2 hnx
  by_cases h1 : e1 = 0
  · have b1 : (e1 != 0) = false := by simp [h1]
    have HX : Hid (R = H) := HE2.out h1
    have HH2 : Hid (_) := HH.out h1
    have HO2 : Hid (_) := HO.out h1
    have HZ : Hid (e1 = 0) := h1
    clear HE1 HE2 h1 HH HO
    go_enter Tryd.func5, Tryd.ntmps5
    go_wp2_with fail
    rw [← HW0.out]
    refine Calls.mono (HG.out _ HB0.out) ?_
    rintro e w1 ⟨rfl, bb⟩
    have HB1 : Hid (Below w.heap.size w w1) := HB0.out.trans (bb.mono HB0.out.size)
    obtain ⟨x0, x1, x2, x3⟩ := HBx.out w1 bb
    clear bb
    go_wp2_with fail
    refine Calls.mono (HH2.out _ HB1.out) ?_
    rintro e w2 ⟨y, rfl, hrl, h96, bb⟩
    have HB2 : Hid (Below w.heap.size w w2) := HB1.out.trans (bb.mono HB1.out.size)
    have HC : Hid (Calls Tryd.prog 17 #[y] w2 fun e w' => ∃ z, e = .returned z ∧ Told w2.heap.size w' z H ∧ Below w2.heap.size w2 w') := HO2.out y w2 hrl h96
    clear bb hrl h96 x0 x1 x2 x3
    go_wp2_with fail
    refine Calls.mono HC.out ?_
    rintro e w3 ⟨z, rfl, ht, bb⟩
    have HB3 : Hid (Below w.heap.size w w3) := HB2.out.trans (bb.mono HB2.out.size)
    have HTo : Hid (Told w.heap.size w3 z H) := ht.low HB2.out.size
    clear bb ht
    go_wp2_with fail
    exact bodyPost_ret (v := .tuple #[z, .int .i64 0]) (by simp [results, Tryd.results5, go_sem]) rfl ⟨z, by rw [HZ.out], by rw [HX.out]; exact HTo.out, HB3.out⟩
  · have b1 : (e1 != 0) = true := by simpa using h1
    have HX : Hid (R = []) := HE1.out h1
    clear HE1 HE2 h1 HH HO
    go_enter Tryd.func5, Tryd.ntmps5
    go_wp2_with fail
    rw [← HW0.out]
    refine Calls.mono (HG.out _ HB0.out) ?_
    rintro e w1 ⟨rfl, bb⟩
    have HB1 : Hid (Below w.heap.size w w1) := HB0.out.trans (bb.mono HB0.out.size)
    clear bb
    go_wp2_with fail
    exact bodyPost_ret (v := .tuple #[.slice none 0 0, .int .i64 e1]) (by simp [results, Tryd.results5, go_sem]) rfl ⟨_, rfl, by rw [HX.out]; exact ⟨[], rfl, World.ownsRow_nil _ _ _ _, fun p hp => by simp at hp⟩, HB1.out⟩
end Go.Proofs.YtnjjlnhchfoigabDoor
