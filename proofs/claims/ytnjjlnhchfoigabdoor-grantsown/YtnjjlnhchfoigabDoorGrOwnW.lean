/- The law GrantsOwn over this translation. -/
import Derived.Test.YtnjjlnhchfoigabDoorGrMayG
import Derived.Test.YtnjjlnhchfoigabDoorGrHeldT
import Derived.Test.YtnjjlnhchfoigabDoorGrNone
import Derived.Test.YtnjjlnhchfoigabDoorGrArgR
namespace Go.Proofs.YtnjjlnhchfoigabDoor
open Go.RowKit Go.Maps
set_option linter.unusedVariables false
set_option linter.unusedSimpArgs false
theorem bxsG {w w1 : World} {a b c d e f g h : Value} {t s r : TypeId} (hh : Below (((w.alloc (.cells #[a, b] t)).alloc (.cells #[c, d] s)).alloc (.cells #[e, f, g, h] r)).heap.size (((w.alloc (.cells #[a, b] t)).alloc (.cells #[c, d] s)).alloc (.cells #[e, f, g, h] r)) w1) :
    (w1.cell? ⟨w.heap.size, 0, none⟩ = some a ∧ w1.cell? ⟨w.heap.size, 1, none⟩ = some b ∧ w1.cell? ⟨w.heap.size + 1, 0, none⟩ = some c ∧ w1.cell? ⟨w.heap.size + 1, 1, none⟩ = some d) ∧ w1.cell? ⟨w.heap.size + 1 + 1, 0, none⟩ = some e ∧ w1.cell? ⟨w.heap.size + 1 + 1, 1, none⟩ = some f ∧ w1.cell? ⟨w.heap.size + 1 + 1, 2, none⟩ = some g ∧ w1.cell? ⟨w.heap.size + 1 + 1, 3, none⟩ = some h := by
  have hb2 : Below ((w.alloc (.cells #[a, b] t)).alloc (.cells #[c, d] s)).heap.size ((w.alloc (.cells #[a, b] t)).alloc (.cells #[c, d] s)) w1 := ((Below.refl _ _).alloc (Nat.le_refl _) _).trans (hh.mono (by simp))
  have h4 := bx4 hh
  have e2 : ((w.alloc (.cells #[a, b] t)).alloc (.cells #[c, d] s)).heap.size = w.heap.size + 1 + 1 := by simp
  rw [e2] at h4
  exact ⟨bxs2 hb2, h4⟩
theorem gap_self {H : List Rl} {r : Rl} (h : r ∈ H) : coversP H r = true := by
  unfold coversP
  cases hg : gapW H r with
  | none => rfl
  | some t =>
    unfold gapW at hg
    obtain ⟨⟨v, k, n, u⟩, hq, _⟩ := Option.map_eq_some_iff.1 hg
    obtain ⟨h0, h1, h2, hgap⟩ := gap_some hq
    exact absurd ⟨by unfold hasS; rw [decide_eq_true h0, Bool.or_true], by unfold hasS; rw [decide_eq_true h1, Bool.or_true], by unfold hasS; rw [decide_eq_true h2, Bool.or_true]⟩ (hgap r h)
theorem rules_ok8 {l : List Rl} (h8 : l.length ≤ 8) (h : ∀ r ∈ l, ruleI r = 0) : rulesI l = 0 := by
  unfold rulesI
  rw [orE_r (by unfold ifE; rw [decide_eq_false (by omega)]; rfl)]
  exact firstE_zero.2 h
/-- one may grant what one holds -/
theorem mayG_own {rs : List Ro} {bs : List Bi} {n : Bs} {gs : List Bs} {sp : Bs} (hf : ∀ r ∈ rs, FitO r) (h : whyI rs bs n gs sp = 0) {m : Nat} (hm : m ≤ 8) : mayGI rs bs n gs sp ((heldP rs bs n gs sp).take m) = 0 := by
  have hv := held_valid (n := n) (gs := gs) (sp := sp) (why_gr h) hf
  rw [mayG_3 h (rules_ok8 (by rw [List.length_take]; omega) (fun r hr => (hv r (List.mem_of_mem_take hr)).1))]
  have hany : ((heldP rs bs n gs sp).take m).any (beyB (heldP rs bs n gs sp)) = false := by
    rw [List.any_eq_false]
    intro r hr
    unfold beyB
    rw [gap_self (List.mem_of_mem_take hr)]
    simp
  cases he : allB (heldP rs bs n gs sp) escA with
  | true => exact tail_1 he
  | false => exact tail_3 he hany
theorem word_cases (s : Bs) : wordI s = 0 ∨ wordI s = 2 ∨ wordI s = 6 := by
  unfold wordI
  split
  · exact Or.inl rfl
  · exact cI_cases s
theorem first_cases {f : Bs → Int} (h : ∀ s, f s = 0 ∨ f s = 2 ∨ f s = 6) : ∀ l, firstE f l = 0 ∨ firstE f l = 2 ∨ firstE f l = 6
  | [] => Or.inl rfl
  | s :: r => by
    rw [firstE]
    split
    · exact first_cases h r
    · exact h s
theorem orE_cases {P : Int → Prop} {a b : Int} (ha : P a) (hb : P b) : P (orE a b) := by
  unfold orE
  split
  · exact hb
  · exact ha
def okE (e : Int) : Prop := e = 0 ∨ e = 14 ∨ e = 2 ∨ e = 1 ∨ e = 6
theorem ok_of {e : Int} (h : e = 0 ∨ e = 2 ∨ e = 6) : okE e := by
  unfold okE
  rcases h with h | h | h <;> simp [h]
theorem rule_cases (r : Rl) : okE (ruleI r) := by
  unfold ruleI
  refine orE_cases ?_ (orE_cases ?_ (orE_cases (ok_of (first_cases word_cases _)) (orE_cases (ok_of (first_cases word_cases _)) (ok_of (first_cases cI_cases _)))))
  · unfold ifE okE; split <;> simp
  · unfold ifE okE; split <;> simp
theorem rules_cases (l : List Rl) : okE (rulesI l) := by
  unfold rulesI
  refine orE_cases ?_ ?_
  · unfold ifE okE; split <;> simp
  · induction l with
    | nil => exact Or.inl rfl
    | cons r t ih =>
      rw [firstE]
      split
      · exact ih
      · exact rule_cases r
theorem mayG_cases {rs : List Ro} {bs : List Bi} {n : Bs} {gs : List Bs} {sp : Bs} {l : List Rl} (h : whyI rs bs n gs sp = 0) : okE (mayGI rs bs n gs sp l) := by
  unfold mayGI
  rw [orE_r h]
  refine orE_cases (rules_cases l) ?_
  unfold mayTail okE
  split
  · simp
  · split <;> simp
/-- who may grant something, without leave to escalate, may all that is granted -/
theorem mayG_all {rs : List Ro} {bs : List Bi} {n : Bs} {gs : List Bs} {sp : Bs} {l : List Rl} (h : whyI rs bs n gs sp = 0) (g : mayGI rs bs n gs sp l = 0) (he : allB (heldP rs bs n gs sp) escA = false) {a : Ak} (ha : allB l a = true) : allB (heldP rs bs n gs sp) a = true := by
  unfold mayGI at g
  rw [orE_r h] at g
  have ht := (orE_zero.1 g).2
  have hany : l.any (beyB (heldP rs bs n gs sp)) = false := by
    cases hx : l.any (beyB (heldP rs bs n gs sp)) with
    | false => rfl
    | true => rw [tail_2 he hx] at ht; cases ht
  obtain ⟨r, hr, hal⟩ := allB_true.1 ha
  have hb := List.any_eq_false.1 hany r hr
  unfold beyB coversP at hb
  cases hg : gapW (heldP rs bs n gs sp) r with
  | some t => rw [hg] at hb; simp at hb
  | none =>
    unfold gapW at hg
    exact gap_covers (Option.map_eq_none_iff.1 hg) hal
set_option maxRecDepth 100000 in
set_option maxHeartbeats 16000000 in
theorem own_walk (u v x y : Value) (rs : List Ro) (bs : List Bi) (n : Bs) (gs : List Bs) (sp : Bs) (l : List Rl) (ak : Ak) (w : World) (hg : Grs w u v rs bs) (hx : Strs w x gs) (hn : n.length ≤ maxLen) (hfg : FitS gs) (hsp : sp.length ≤ maxLen) (hy : Rls w y l) (hfl : ∀ r ∈ l, FitR r) (hT : TabW w) :
    Calls Tryd.prog 3 #[.agg #[u, v], .agg #[.string (Ba n), x], .string (Ba sp), y, askV ak] w fun e w' => e = .returned (.bool true) ∧ Below w.heap.size w w' := by
  obtain ⟨k0, k1, k2, k3⟩ := ak
  obtain ⟨p, c, rfl, hn1⟩ := Sq.form hg.ros
  obtain ⟨p2, c2, rfl, hn2⟩ := Sq.form hg.bis
  obtain ⟨px, cx, rfl, hnx⟩ := hx.form
  obtain ⟨py, cy, rfl, hny⟩ := hy.form
  have HHd : Hid (∀ w1, Below w.heap.size w w1 → Calls Tryd.prog 5 #[.agg #[.slice p rs.length c, .slice p2 bs.length c2], .agg #[.string (Ba n), .slice px gs.length cx], .string (Ba sp)] w1 fun e w' => ∃ pz cz, e = .returned (.tuple #[.slice pz (heldE rs bs n gs sp).length cz, .int .i64 (whyI rs bs n gs sp)]) ∧ Rls w' (.slice pz (heldE rs bs n gs sp).length cz) (heldE rs bs n gs sp) ∧ Below w1.heap.size w1 w') := fun w1 hb => by
    refine (heldT_any _ _ _ rs bs n gs sp w1 (hg.below hb) (hx.below hb) hn hfg hsp).mono ?_
    rintro e w' ⟨y, rfl, ht, hb1⟩
    obtain ⟨pz, cz, rfl, _⟩ := ht.rls.form
    exact ⟨pz, cz, rfl, ht.rls, hb1⟩
  have HM : Hid (∀ w1, Below w.heap.size w w1 → Calls Tryd.prog 6 #[.agg #[.slice p rs.length c, .slice p2 bs.length c2], .agg #[.string (Ba n), .slice px gs.length cx], .string (Ba sp), .slice py l.length cy] w1 fun e w' => e = .returned (.int .i64 (mayGI rs bs n gs sp l)) ∧ Below w1.heap.size w1 w') := fun w1 hb => mayGrant_any _ _ _ _ rs bs n gs sp l w1 (hg.below hb) (hx.below hb) hn hfg hsp (Sq.below rlAt_stays hy hb) hfl (hT.below hb)
  have HO : Hid (whyI rs bs n gs sp = 0 → ∀ w1 pz cz m, Below w.heap.size w w1 → m ≤ 8 → m ≤ (heldP rs bs n gs sp).length → Rls w1 (.slice pz (heldP rs bs n gs sp).length cz) (heldP rs bs n gs sp) → Calls Tryd.prog 6 #[.agg #[.slice p rs.length c, .slice p2 bs.length c2], .agg #[.string (Ba n), .slice px gs.length cx], .string (Ba sp), .slice pz m cz] w1 fun e w' => e = .returned (.int .i64 0) ∧ Below w1.heap.size w1 w') := fun h w1 pz cz m hb h8 hml hr => by
    have hv := held_valid (n := n) (gs := gs) (sp := sp) (why_gr h) hg.fitO
    have h1 := mayGrant_any _ _ _ (.slice pz m cz) rs bs n gs sp ((heldP rs bs n gs sp).take m) w1 (hg.below hb) (hx.below hb) hn hfg hsp (Sq.take hr hml) (fun r hr => (hv r (List.mem_of_mem_take hr)).2) (hT.below hb)
    rw [mayG_own hg.fitO h h8] at h1
    exact h1
  have HNo : Hid (∀ w, Calls Tryd.prog 7 #[] w fun e w' => e = .returned (.bool true) ∧ Below w.heap.size w w') := none_any
  have HA1 : Hid (∀ (w2 : World) (hv : Value), Rls w2 hv (heldP rs bs n gs sp) → Calls Tryd.prog 8 #[hv, .agg #[.string ⟨#[101, 115, 99, 97, 108, 97, 116, 101]⟩, .string ⟨#[114, 111, 108, 101, 115]⟩, .string ⟨#[]⟩, .string ⟨#[]⟩]] w2 fun e w' => e = .returned (.bool (allB (heldP rs bs n gs sp) escA)) ∧ Below w2.heap.size w2 w') := fun w2 hv hH => allows_any hv _ escA w2 hH
  have HA2 : Hid (∀ (w2 : World) (hv : Value), Rls w2 hv (heldP rs bs n gs sp) → Calls Tryd.prog 8 #[hv, .agg #[.string (Ba k0), .string (Ba k1), .string (Ba k2), .string (Ba k3)]] w2 fun e w' => e = .returned (.bool (allB (heldP rs bs n gs sp) (k0, k1, k2, k3))) ∧ Below w2.heap.size w2 w') := fun w2 hv hH => allows_any hv _ (k0, k1, k2, k3) w2 hH
  have HA3 : Hid (∀ (w2 : World), Below w.heap.size w w2 → Calls Tryd.prog 8 #[.slice py l.length cy, .agg #[.string (Ba k0), .string (Ba k1), .string (Ba k2), .string (Ba k3)]] w2 fun e w' => e = .returned (.bool (allB l (k0, k1, k2, k3))) ∧ Below w2.heap.size w2 w') := fun w2 hb => allows_any _ l (k0, k1, k2, k3) w2 (Sq.below rlAt_stays hy hb)
  have HE1 : Hid (whyI rs bs n gs sp ≠ 0 → mayGI rs bs n gs sp l = whyI rs bs n gs sp) := mayG_1
  have HE2 : Hid (whyI rs bs n gs sp ≠ 0 → (heldE rs bs n gs sp).length = 0) := fun h => by unfold heldE; rw [if_neg h]; rfl
  have HE3 : Hid (whyI rs bs n gs sp = 0 → heldE rs bs n gs sp = heldP rs bs n gs sp) := fun h => by unfold heldE; rw [if_pos h]
  have HE4 : Hid (whyI rs bs n gs sp = 0 → okE (mayGI rs bs n gs sp l)) := mayG_cases
  have HE5 : Hid (whyI rs bs n gs sp = 0 → mayGI rs bs n gs sp l = 0 → allB (heldP rs bs n gs sp) escA = false → allB l (k0, k1, k2, k3) = true → allB (heldP rs bs n gs sp) (k0, k1, k2, k3) = true) := fun h1 h2 h3 h4 => mayG_all h1 h2 h3 h4
  have HBx : Hid (∀ w1, Below (((w.alloc (.cells #[.slice p rs.length c, .slice p2 bs.length c2] 25)).alloc (.cells #[.string (Ba n), .slice px gs.length cx] 28)).alloc (.cells #[.string (Ba k0), .string (Ba k1), .string (Ba k2), .string (Ba k3)] 31)).heap.size (((w.alloc (.cells #[.slice p rs.length c, .slice p2 bs.length c2] 25)).alloc (.cells #[.string (Ba n), .slice px gs.length cx] 28)).alloc (.cells #[.string (Ba k0), .string (Ba k1), .string (Ba k2), .string (Ba k3)] 31)) w1 → (w1.cell? ⟨w.heap.size, 0, none⟩ = some (.slice p rs.length c) ∧ w1.cell? ⟨w.heap.size, 1, none⟩ = some (.slice p2 bs.length c2) ∧ w1.cell? ⟨w.heap.size + 1, 0, none⟩ = some (.string (Ba n)) ∧ w1.cell? ⟨w.heap.size + 1, 1, none⟩ = some (.slice px gs.length cx)) ∧ w1.cell? ⟨w.heap.size + 1 + 1, 0, none⟩ = some (.string (Ba k0)) ∧ w1.cell? ⟨w.heap.size + 1 + 1, 1, none⟩ = some (.string (Ba k1)) ∧ w1.cell? ⟨w.heap.size + 1 + 1, 2, none⟩ = some (.string (Ba k2)) ∧ w1.cell? ⟨w.heap.size + 1 + 1, 3, none⟩ = some (.string (Ba k3))) := fun w1 h => bxsG h
  obtain ⟨w0, hw0⟩ : ∃ w0, w0 = ((w.alloc (.cells #[.slice p rs.length c, .slice p2 bs.length c2] 25)).alloc (.cells #[.string (Ba n), .slice px gs.length cx] 28)).alloc (.cells #[.string (Ba k0), .string (Ba k1), .string (Ba k2), .string (Ba k3)] 31) := ⟨_, rfl⟩
  have hB0 : Below w.heap.size w w0 := by rw [hw0]; exact (((Below.refl _ _).alloc (Nat.le_refl _) _).alloc (by simp) _).alloc (by simp; omega) _
  have HB0 : Hid (Below w.heap.size w w0) := hB0
  rw [← hw0] at HBx
  have HW0 : Hid (w0 = ((w.alloc (.cells #[.slice p rs.length c, .slice p2 bs.length c2] 25)).alloc (.cells #[.string (Ba n), .slice px gs.length cx] 28)).alloc (.cells #[.string (Ba k0), .string (Ba k1), .string (Ba k2), .string (Ba k3)] 31)) := hw0
  have HBt : Hid (∀ {a b : World}, Below w0.heap.size w0 a → Below a.heap.size a b → Below w0.heap.size w0 b) := fun h g => h.trans (g.mono h.size)
  have HBw : Hid (∀ {a : World}, Below w0.heap.size w0 a → Below w.heap.size w a) := fun h => hB0.trans (h.mono hB0.size)
  clear hg hx hn hfg hsp hy hfl hT hw0 hB0
  dsimp only [askV]
  generalize mayGI rs bs n gs sp l = f at *
  generalize whyI rs bs n gs sp = e1 at *
  generalize heldE rs bs n gs sp = He at *
  generalize heldP rs bs n gs sp = H at *
  generalize allB H escA = es at *
  generalize allB H (k0, k1, k2, k3) = ah at *
  generalize allB l (k0, k1, k2, k3) = al at *
  generalize rs.length = l1 at *
  generalize bs.length = l2 at *
  generalize gs.length = l3 at *
  generalize l.length = l4 at *
  generalize Ba n = yn at *
  generalize Ba sp = ys at *
  generalize Ba k0 = z0 at *
  generalize Ba k1 = z1 at *
  generalize Ba k2 = z2 at *
  generalize Ba k3 = z3 at *
  unfold maxLen at hn1 hn2 hnx hny
  by_cases h1 : e1 = 0
  · subst h1
    have HH0 : Hid (He = H) := HE3.out rfl
    have HOk : Hid (okE f) := HE4.out rfl
    have HAl : Hid (f = 0 → es = false → al = true → ah = true) := HE5.out rfl
    have HOo : Hid (∀ w1 pz cz m, Below w.heap.size w w1 → m ≤ 8 → m ≤ H.length → Rls w1 (.slice pz H.length cz) H → Calls Tryd.prog 6 #[.agg #[.slice p l1 c, .slice p2 l2 c2], .agg #[.string yn, .slice px l3 cx], .string ys, .slice pz m cz] w1 fun e w' => e = .returned (.int .i64 0) ∧ Below w1.heap.size w1 w') := HO.out rfl
    clear HE1 HE2 HE3 HE4 HE5 HO
    have HHd2 : Hid (∀ w1, Below w.heap.size w w1 → Calls Tryd.prog 5 #[.agg #[.slice p l1 c, .slice p2 l2 c2], .agg #[.string yn, .slice px l3 cx], .string ys] w1 fun e w' => ∃ pz cz, e = .returned (.tuple #[.slice pz H.length cz, .int .i64 0]) ∧ Rls w' (.slice pz H.length cz) H ∧ Below w1.heap.size w1 w') := fun w1 hb => by
      have h := HHd.out w1 hb
      rw [HH0.out] at h
      exact h
    clear HHd HH0
    go_enter Tryd.func3, Tryd.ntmps3
    go_wp2_with fail
    rw [← HW0.out]
    refine Calls.mono (HHd2.out _ HB0.out) ?_
    rintro e w1 ⟨pz, cz, rfl, hr1, hb1⟩
    have HB1 : Hid (Below w0.heap.size w0 w1) := hb1
    have HR1 : Hid (Rls w1 (.slice pz H.length cz) H) := hr1
    obtain ⟨⟨r0, r1, r2, r3⟩, r4, r5, r6, r7⟩ := HBx.out w1 hb1
    clear hb1 hr1
    go_wp2_with fail
    refine Calls.mono (HM.out _ (HBw.out HB1.out)) ?_
    rintro e w2 ⟨rfl, hb2⟩
    have HB2 : Hid (Below w0.heap.size w0 w2) := HBt.out HB1.out hb2
    have HR2 : Hid (Rls w2 (.slice pz H.length cz) H) := Sq.below rlAt_stays HR1.out hb2
    clear hb2 r0 r1 r2 r3 r4 r5 r6 r7
    go_wp2_with fail
    refine Calls.mono (HNo.out _) ?_
    rintro e w3 ⟨rfl, hb3⟩
    have HB3 : Hid (Below w0.heap.size w0 w3) := HBt.out HB2.out hb3
    have HR3 : Hid (Rls w3 (.slice pz H.length cz) H) := Sq.below rlAt_stays HR2.out hb3
    obtain ⟨⟨r0, r1, r2, r3⟩, r4, r5, r6, r7⟩ := HBx.out w3 HB3.out
    clear hb3
    have hH63 : H.length ≤ maxLen := by obtain ⟨_, _, _, h⟩ := HR3.out.form; exact h
    have hcap : H.length ≤ cz := by
      rcases HR3.out with ⟨hz, _⟩ | ⟨_, _, _, e, h, _⟩
      · rw [hz]; exact Nat.zero_le _
      · injection e with _ _ e; rw [e]; exact h
    unfold maxLen at hH63
    go_wp2_with fail
    refine Calls.mono (HOo.out w3 pz cz _ (HBw.out HB3.out) (by omega) (by omega) HR3.out) ?_
    rintro e w4 ⟨rfl, hb4⟩
    have HB4 : Hid (Below w0.heap.size w0 w4) := HBt.out HB3.out hb4
    have HR4 : Hid (Rls w4 (.slice pz H.length cz) H) := Sq.below rlAt_stays HR3.out hb4
    clear hb4 r0 r1 r2 r3 r4 r5 r6 r7
    by_cases hf0 : f = 0
    · subst hf0
      go_wp2_with fail
      refine Calls.mono (HA1.out _ _ HR4.out) ?_
      rintro e w5 ⟨rfl, hb5⟩
      have HB5 : Hid (Below w0.heap.size w0 w5) := HBt.out HB4.out hb5
      have HR5 : Hid (Rls w5 (.slice pz H.length cz) H) := Sq.below rlAt_stays HR4.out hb5
      obtain ⟨⟨r0, r1, r2, r3⟩, r4, r5, r6, r7⟩ := HBx.out w5 HB5.out
      clear hb5
      cases es with
      | true =>
        go_wp2_with fail
        go_ret
        exact ⟨rfl, HBw.out HB5.out⟩
      | false =>
        go_wp2_with fail
        refine Calls.mono (HA3.out _ (HBw.out HB5.out)) ?_
        rintro e w6 ⟨rfl, hb6⟩
        have HB6 : Hid (Below w0.heap.size w0 w6) := HBt.out HB5.out hb6
        have HR6 : Hid (Rls w6 (.slice pz H.length cz) H) := Sq.below rlAt_stays HR5.out hb6
        clear hb6 r0 r1 r2 r3 r4 r5 r6 r7
        obtain ⟨⟨r0, r1, r2, r3⟩, r4, r5, r6, r7⟩ := HBx.out w6 HB6.out
        cases al with
        | false =>
          go_wp2_with fail
          go_ret
          exact ⟨rfl, HBw.out HB6.out⟩
        | true =>
          have hah : ah = true := HAl.out (by simp) (by simp) (by simp)
          subst hah
          go_wp2_with fail
          refine Calls.mono (HA2.out _ _ HR6.out) ?_
          rintro e w7 ⟨rfl, hb7⟩
          have HB7 : Hid (Below w0.heap.size w0 w7) := HBt.out HB6.out hb7
          clear hb7
          go_wp2_with fail
          go_ret
          exact ⟨rfl, HBw.out HB7.out⟩
    · have hcs : f = 14 ∨ f = 2 ∨ f = 1 ∨ f = 6 := by
        have h := HOk.out
        unfold okE at h
        rcases h with h | h
        · exact absurd h hf0
        · exact h
      clear HAl HOk HA1 HA2 HA3 HM hf0
      rcases hcs with rfl | rfl | rfl | rfl
      all_goals
        go_wp2_with fail
        go_ret
        exact ⟨rfl, HBw.out HB4.out⟩
  · have b1 : (e1 != 0) = true := by simpa using h1
    have HF : Hid (f = e1) := HE1.out h1
    have HL0 : Hid (He.length = 0) := HE2.out h1
    have HHd2 : Hid (∀ w1, Below w.heap.size w w1 → Calls Tryd.prog 5 #[.agg #[.slice p l1 c, .slice p2 l2 c2], .agg #[.string yn, .slice px l3 cx], .string ys] w1 fun e w' => ∃ pz cz, e = .returned (.tuple #[.slice pz 0 cz, .int .i64 e1]) ∧ Below w1.heap.size w1 w') := fun w1 hb => by
      refine (HHd.out w1 hb).mono ?_
      rintro e w' ⟨pz, cz, rfl, _, hb1⟩
      rw [HL0.out]
      exact ⟨pz, cz, rfl, hb1⟩
    have HM2 : Hid (∀ w1, Below w.heap.size w w1 → Calls Tryd.prog 6 #[.agg #[.slice p l1 c, .slice p2 l2 c2], .agg #[.string yn, .slice px l3 cx], .string ys, .slice py l4 cy] w1 fun e w' => e = .returned (.int .i64 e1) ∧ Below w1.heap.size w1 w') := fun w1 hb => by
      have h := HM.out w1 hb
      rw [HF.out] at h
      exact h
    clear HE1 HE2 HE3 HE4 HE5 HO HHd HM HF HL0 h1
    go_enter Tryd.func3, Tryd.ntmps3
    go_wp2_with fail
    rw [← HW0.out]
    refine Calls.mono (HHd2.out _ HB0.out) ?_
    rintro e w1 ⟨pz, cz, rfl, hb1⟩
    have HB1 : Hid (Below w0.heap.size w0 w1) := hb1
    obtain ⟨⟨r0, r1, r2, r3⟩, r4, r5, r6, r7⟩ := HBx.out w1 hb1
    clear hb1
    go_wp2_with fail
    refine Calls.mono (HM2.out _ (HBw.out HB1.out)) ?_
    rintro e w2 ⟨rfl, hb2⟩
    have HB2 : Hid (Below w0.heap.size w0 w2) := HBt.out HB1.out hb2
    clear hb2 r0 r1 r2 r3 r4 r5 r6 r7
    go_wp2_with fail
    refine Calls.mono (HNo.out _) ?_
    rintro e w3 ⟨rfl, hb3⟩
    have HB3 : Hid (Below w0.heap.size w0 w3) := HBt.out HB2.out hb3
    clear hb3
    go_wp2_with fail
    go_ret
    exact ⟨rfl, HBw.out HB3.out⟩
end Go.Proofs.YtnjjlnhchfoigabDoor
