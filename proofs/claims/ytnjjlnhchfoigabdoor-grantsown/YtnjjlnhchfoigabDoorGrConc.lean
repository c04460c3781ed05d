/- Contracts over this translation: grants.concerns, rulesOf. -/
import Derived.Test.YtnjjlnhchfoigabDoorGrBind
namespace Go.Proofs.YtnjjlnhchfoigabDoor
open Go.RowKit
set_option linter.unusedVariables false
set_option linter.unusedSimpArgs false
def bindV (b : Bi) (u x : Value) : Value := .agg #[.string (Ba b.1), .string (Ba b.2.1), .string (Ba b.2.2.1), .bool b.2.2.2.1, u, x]
def anyB (gs bg : List Bs) : Bool := gs.any fun x => decide (x ∈ bg)
theorem any_hit {gs bg : List Bs} {k : Nat} (hk : k < gs.length) (h : decide (gs[k] ∈ bg) = true) : anyB (gs.drop k) bg = true := by
  unfold anyB; rw [List.drop_eq_getElem_cons hk, List.any_cons, h]; rfl
theorem any_step {gs bg : List Bs} {k : Nat} (hk : k < gs.length) (h : decide (gs[k] ∈ bg) = false) : anyB (gs.drop k) bg = anyB (gs.drop (k + 1)) bg := by
  unfold anyB; rw [List.drop_eq_getElem_cons hk, List.any_cons, h]; rfl
theorem any_end {gs bg : List Bs} {k : Nat} (hk : gs.length ≤ k) : anyB (gs.drop k) bg = false := by
  rw [List.drop_eq_nil_of_le hk]; rfl
set_option maxRecDepth 100000 in
set_option maxHeartbeats 4000000 in
theorem conc_any (b : Bi) (u x v : Value) (n : Bs) (gs : List Bs) (w : World) (hu : Strs w u b.2.2.2.2.1) (hx : Strs w x b.2.2.2.2.2) (hv : Strs w v gs) :
    Calls Tryd.prog 39 #[bindV b u x, .agg #[.string (Ba n), v]] w fun e w' => e = .returned (.bool (concB b n gs)) ∧ Below w.heap.size w w' := by
  obtain ⟨sp, nm, ro, wh, us, bg⟩ := b
  dsimp only [bindV] at *
  have HX : Hid (concB (sp, nm, ro, wh, us, bg) n gs = (decide (n ∈ us) || anyB (gs.drop 0) bg)) := rfl
  obtain ⟨p1, c1, rfl, hn1⟩ := hu.form
  obtain ⟨p2, c2, rfl, hn2⟩ := hx.form
  obtain ⟨p, c, rfl, hn, hcell⟩ := hv.open
  obtain ⟨w0, hw0⟩ : ∃ w0, w0 = w.alloc (.cells #[.string (Ba sp), .string (Ba nm), .string (Ba ro), .bool wh, .slice p1 us.length c1, .slice p2 bg.length c2] 61) := ⟨_, rfl⟩
  obtain ⟨w2, hw2⟩ : ∃ w2, w2 = w0.alloc (.cells #[.string (Ba n), .slice p gs.length c] 28) := ⟨_, rfl⟩
  have HW0 : Hid (w0 = w.alloc (.cells #[.string (Ba sp), .string (Ba nm), .string (Ba ro), .bool wh, .slice p1 us.length c1, .slice p2 bg.length c2] 61)) := hw0
  have HW2 : Hid (w2 = w0.alloc (.cells #[.string (Ba n), .slice p gs.length c] 28)) := hw2
  have hB2 : Below w0.heap.size w0 w2 := by rw [hw2]; exact (Below.refl _ _).alloc (Nat.le_refl _) _
  have hB0 : Below w.heap.size w w0 := by rw [hw0]; exact (Below.refl _ _).alloc (Nat.le_refl _) _
  have hs0 : w0.heap.size = w.heap.size + 1 := by rw [hw0]; simp
  have hBw := hB0.trans (hB2.mono hB0.size)
  have HB : Hid (Below w.heap.size w w2) := hBw
  obtain ⟨x0, x1, x2, x3, x4, x5⟩ := bx6 (by rw [hw0] at hB2; exact hB2)
  have hyy : w2.cell? ⟨w0.heap.size, 0, none⟩ = some (.string (Ba n)) ∧ w2.cell? ⟨w0.heap.size, 1, none⟩ = some (.slice p gs.length c) := by
    rw [hw2]; exact box2 (Below.refl _ _)
  obtain ⟨y0, y1⟩ := hyy
  rw [hs0] at y0 y1
  have H1 : Hid (Calls Tryd.prog 54 #[.slice p1 us.length c1, .string (Ba n)] w2 fun e w' => e = .returned (.bool (decide (n ∈ us))) ∧ w' = w2) := contains_of _ us n w2 (hu.below hBw)
  have H2 : Hid (∀ k (hk : k < gs.length), Calls Tryd.prog 54 #[.slice p2 bg.length c2, .string (Ba gs[k])] w2 fun e w' => e = .returned (.bool (decide (gs[k] ∈ bg))) ∧ w' = w2) := fun k hk => contains_of _ bg gs[k] w2 (hx.below hBw)
  have HC : Hid (∀ k (hk : k < gs.length), ∃ g o, p = some ⟨g, o, none⟩ ∧ gs.length ≤ c ∧ w2.cell? ⟨g, o + k, none⟩ = some (.string (Ba gs[k]))) := fun k hk => by
    obtain ⟨g, o, h1, h2, h3⟩ := hcell k hk
    exact ⟨g, o, h1, h2, h3 w2 hBw⟩
  have HS0 : Hid (∀ k (hk : k < gs.length), decide (gs[k] ∈ bg) = false → anyB (gs.drop k) bg = anyB (gs.drop (k + 1)) bg) := fun k hk h => any_step hk h
  have HT0 : Hid (∀ k (hk : k < gs.length), decide (gs[k] ∈ bg) = true → anyB (gs.drop k) bg = true) := fun k hk h => any_hit hk h
  have HEnd : Hid (∀ k, gs.length ≤ k → anyB (gs.drop k) bg = false) := fun k hk => any_end hk
  have HXX : Hid (w2.cell? ⟨w.heap.size, 4, none⟩ = some (.slice p1 us.length c1) ∧ w2.cell? ⟨w.heap.size, 5, none⟩ = some (.slice p2 bg.length c2) ∧ w2.cell? ⟨w.heap.size + 1, 0, none⟩ = some (.string (Ba n)) ∧ w2.cell? ⟨w.heap.size + 1, 1, none⟩ = some (.slice p gs.length c)) := ⟨x4, x5, y0, y1⟩
  clear hu hx hv hcell hB0 hB2 hBw hs0 hw0 hw2 x0 x1 x2 x3 x4 x5 y0 y1
  generalize concB (sp, nm, ro, wh, us, bg) n gs = res at *
  generalize decide (n ∈ us) = b1 at *
  generalize Ba sp = s1 at *
  generalize Ba nm = s2 at *
  generalize Ba ro = s3 at *
  generalize Ba n = s4 at *
  generalize us.length = l1 at *
  generalize bg.length = l2 at *
  unfold maxLen at hn1 hn2 hn
  cases b1 with
  | true =>
    go_enter Tryd.func39, Tryd.ntmps39
    go_wp2_with fail
    rw [← HW0.out, ← HW2.out]
    refine Calls.mono H1.out ?_
    rintro e w1 ⟨rfl, hw1⟩
    obtain rfl : w2 = w1 := hw1.symm
    go_wp2_with fail
    go_ret
    exact ⟨by rw [HX.out]; rfl, HB.out⟩
  | false =>
    have HX1 : Hid (res = anyB (gs.drop 0) bg) := HX.out
    go_enter Tryd.func39, Tryd.ntmps39
    go_wp2_with fail
    rw [← HW0.out, ← HW2.out]
    refine Calls.mono H1.out ?_
    rintro e w1 ⟨rfl, hw1⟩
    obtain rfl : w2 = w1 := hw1.symm
    obtain ⟨x4, x5, y0, y1⟩ := HXX.out
    go_wp2_with fail
    go_loop [15] (fun i => ∃ k : Nat, k ≤ gs.length ∧ i = .int .i64 k ∧ res = anyB (gs.drop k) bg) (fun i => gs.length - (intOf i).toNat)
    case atStart => exact ⟨0, Nat.zero_le _, rfl, HX1.out⟩
    case round =>
      obtain ⟨k, hk, rfl, hall⟩ := hrel
      have HA : Hid (res = anyB (gs.drop k) bg) := hall
      clear hall
      by_cases hlt : k < gs.length
      · obtain ⟨g, o, rfl, hlc, hc⟩ := HC.out k hlt
        have HCk := H2.out k hlt
        have HS := HS0.out k hlt
        have HT := HT0.out k hlt
        generalize decide (gs[k] ∈ bg) = d at *
        generalize Ba gs[k] = z at *
        have HCh : Hid (_) := HCk
        clear HCk
        cases d with
        | true =>
          have HR : Hid (res = true) := HA.out.trans (HT rfl)
          clear HS HT
          go_wp2_with fail
          refine Calls.mono HCh.out ?_
          rintro e w1 ⟨rfl, hw1⟩
          obtain rfl : w2 = w1 := hw1.symm
          go_wp2_with fail
          go_ret
          exact ⟨by rw [HR.out]; rfl, HB.out⟩
        | false =>
          have HR : Hid (res = anyB (gs.drop (k + 1)) bg) := HA.out.trans (HS rfl)
          clear HS HT
          go_wp2_with fail
          refine Calls.mono HCh.out ?_
          rintro e w1 ⟨rfl, hw1⟩
          obtain rfl : w2 = w1 := hw1.symm
          go_wp2_with fail
          go_round
          case rel => exact ⟨k + 1, by omega, by go_num, HR.out⟩
          case measure => simp [intOf]; omega
      · have HR : Hid (res = false) := HA.out.trans (HEnd.out k (by omega))
        go_wp2_with fail
        go_ret
        exact ⟨by rw [HR.out]; rfl, HB.out⟩
theorem isRole_eq (b : Bi) (r : Ro) : isRole b r = (decide (r.1 = spOf b) && decide (r.2.1 = b.2.2.1)) := rfl
/-- the box of a bind, then the loop -/
theorem sp_whole {b : Bi} (h : b.2.2.2.1 = true) : spOf b = [] := if_pos h
theorem sp_own {b : Bi} (h : b.2.2.2.1 = false) : spOf b = b.1 := by unfold spOf; rw [h]; rfl
set_option maxRecDepth 100000 in
set_option maxHeartbeats 4000000 in
theorem roleOf_any (b : Bi) (u x v : Value) (rs : List Ro) (w00 w : World) (hu : Strs w u b.2.2.2.2.1) (hx : Strs w x b.2.2.2.2.2) (hv : Ros w00 v rs) (hb0 : Below w00.heap.size w00 w) :
    Calls Tryd.prog 40 #[v, bindV b u x] w fun e w' => ∃ p n c, e = .returned (.slice p n c) ∧ Rls w00 (.slice p n c) (roleOf rs b) ∧ Below w.heap.size w w' := by
  have HSp1 : Hid (b.2.2.2.1 = true → spOf b = []) := sp_whole
  have HSp2 : Hid (b.2.2.2.1 = false → spOf b = b.1) := sp_own
  have HQ1 : Hid (∀ s, ((Ba s).toList == (Ba (spOf b)).toList) = decide (s = spOf b)) := fun s => ba_beq s _
  have HQ2 : Hid (∀ s, ((Ba s).toList == (Ba b.2.2.1).toList) = decide (s = b.2.2.1)) := fun s => ba_beq s _
  have HS0 : Hid (∀ k (hk : k < rs.length), (decide (rs[k].1 = spOf b) && decide (rs[k].2.1 = b.2.2.1)) = false → roleOf (rs.drop k) b = roleOf (rs.drop (k + 1)) b) := fun k hk h => roleOf_step hk h
  have HT0 : Hid (∀ k (hk : k < rs.length), (decide (rs[k].1 = spOf b) && decide (rs[k].2.1 = b.2.2.1)) = true → roleOf (rs.drop k) b = rs[k].2.2) := fun k hk h => roleOf_hit hk h
  have HEnd : Hid (∀ k, rs.length ≤ k → roleOf (rs.drop k) b = []) := fun k hk => roleOf_end hk
  have HX0 : Hid (roleOf rs b = roleOf (rs.drop 0) b) := rfl
  obtain ⟨p, c, rfl, hn, hcell⟩ := Sq.open roAt_stays hv
  have HC : Hid (∀ k (hk : k < rs.length), ∃ g o p3 n3 c3, p = some ⟨g, o, none⟩ ∧ rs.length ≤ c ∧ Rls w00 (.slice p3 n3 c3) rs[k].2.2 ∧ ∀ w1, Below w.heap.size w w1 →
      w1.cell? ⟨g, o + k * 3, none⟩ = some (.string (Ba rs[k].1)) ∧ w1.cell? ⟨g, o + k * 3 + 1, none⟩ = some (.string (Ba rs[k].2.1)) ∧ w1.cell? ⟨g, o + k * 3 + 2, none⟩ = some (.slice p3 n3 c3)) := fun k hk => by
    obtain ⟨g, o, h1, h2, h3, h4⟩ := hcell k hk
    obtain ⟨k1, k2, d, k3, s3⟩ := h4 w00 (Below.refl _ _)
    obtain ⟨p3, c3, rfl, _⟩ := Sq.form s3
    refine ⟨g, o, p3, _, c3, h1, h2, s3, fun w1 hb => ?_⟩
    have hb1 : Below w00.heap.size w00 w1 := hb0.trans (hb.mono hb0.size)
    rw [hb1.cell (p := ⟨g, o + k * 3, none⟩) h3, hb1.cell (p := ⟨g, o + k * 3 + 1, none⟩) h3, hb1.cell (p := ⟨g, o + k * 3 + 2, none⟩) h3]
    exact ⟨k1, k2, k3⟩
  obtain ⟨p1, c1, rfl, hn1⟩ := hu.form
  obtain ⟨p2, c2, rfl, hn2⟩ := hx.form
  obtain ⟨S, hS⟩ : ∃ S, S = spOf b := ⟨_, rfl⟩
  rw [← hS] at HSp1 HSp2 HQ1 HS0 HT0
  generalize hM : roleOf rs b = M at *
  have HRO : Hid (∀ k, roleOf (rs.drop 0) b = roleOf (rs.drop k) b → M = roleOf (rs.drop k) b) := fun k h => HX0.out.trans h
  clear hM hS hu hx hv hcell hb0
  obtain ⟨sp, nm, ro, wh, us, bg⟩ := b
  dsimp only [bindV] at *
  have HBx : Hid (∀ w1, Below (w.alloc (.cells #[.string (Ba sp), .string (Ba nm), .string (Ba ro), .bool wh, .slice p1 us.length c1, .slice p2 bg.length c2] 61)).heap.size (w.alloc (.cells #[.string (Ba sp), .string (Ba nm), .string (Ba ro), .bool wh, .slice p1 us.length c1, .slice p2 bg.length c2] 61)) w1 →
      w1.cell? ⟨w.heap.size, 0, none⟩ = some (.string (Ba sp)) ∧ w1.cell? ⟨w.heap.size, 2, none⟩ = some (.string (Ba ro)) ∧ w1.cell? ⟨w.heap.size, 3, none⟩ = some (.bool wh)) := fun w1 h => ⟨(bx6 h).1, (bx6 h).2.2.1, (bx6 h).2.2.2.1⟩
  obtain ⟨w0, hw0⟩ : ∃ w0, w0 = w.alloc (.cells #[.string (Ba sp), .string (Ba nm), .string (Ba ro), .bool wh, .slice p1 us.length c1, .slice p2 bg.length c2] 61) := ⟨_, rfl⟩
  have hB0 : Below w.heap.size w w0 := by rw [hw0]; exact (Below.refl _ _).alloc (Nat.le_refl _) _
  have HB0 : Hid (Below w.heap.size w w0) := hB0
  rw [← hw0] at HBx
  have HW0 : Hid (w0 = w.alloc (.cells #[.string (Ba sp), .string (Ba nm), .string (Ba ro), .bool wh, .slice p1 us.length c1, .slice p2 bg.length c2] 61)) := hw0
  clear hw0 hB0
  generalize us.length = l1 at *
  generalize bg.length = l2 at *
  unfold maxLen at hn1 hn2 hn
  cases wh with
  | true =>
    have hSe : S = [] := HSp1.out rfl
    have HQ1' : Hid (∀ s, ((Ba s).toList == []) = decide (s = S)) := fun s => by rw [hSe]; exact ba_is s []
    clear HQ1 hSe
    have HQ1 := HQ1'
    clear HQ1'
    go_enter Tryd.func40, Tryd.ntmps40
    go_wp2_with fail
    rw [← HW0.out]
    go_loopw [14] (fun i wr => ∃ k : Nat, k ≤ rs.length ∧ i = .int .i64 k ∧ roleOf (rs.drop 0) (sp, nm, ro, true, us, bg) = roleOf (rs.drop k) (sp, nm, ro, true, us, bg) ∧ Below w0.heap.size w0 wr) (fun i _ => rs.length - (intOf i).toNat)
    case atStart => exact ⟨0, Nat.zero_le _, rfl, rfl, Below.refl _ _⟩
    case round =>
      obtain ⟨k, hk, rfl, hall, hbel⟩ := hrel
      have HA : Hid (roleOf (rs.drop 0) (sp, nm, ro, true, us, bg) = roleOf (rs.drop k) (sp, nm, ro, true, us, bg)) := hall
      have HB : Hid (Below w0.heap.size w0 wr) := hbel
      have HBw : Hid (Below w.heap.size w wr) := HB0.out.trans (hbel.mono HB0.out.size)
      clear hall hbel
      by_cases hlt : k < rs.length
      · obtain ⟨g, o, p3, n3, c3, rfl, hlc, k4, hc0⟩ := HC.out k hlt
        obtain ⟨k1, k2, k3⟩ := hc0 wr HBw.out
        have HS := HS0.out k hlt
        have HT := HT0.out k hlt
        have q1 := HQ1.out rs[k].1
        have q2 := HQ2.out rs[k].2.1
        have hBn : Below wr.heap.size wr (wr.alloc (.cells #[.string (Ba rs[k].1), .string (Ba rs[k].2.1), .slice p3 n3 c3] 59)) := (Below.refl _ _).alloc (Nat.le_refl _) _
        have HRl : Hid (Rls w00 (.slice p3 n3 c3) rs[k].2.2) := k4
        have HBn : Hid (Below w0.heap.size w0 (wr.alloc (.cells #[.string (Ba rs[k].1), .string (Ba rs[k].2.1), .slice p3 n3 c3] 59))) := HB.out.trans (hBn.mono HB.out.size)
        obtain ⟨z0, z2, z3⟩ := HBx.out _ HBn.out
        clear hc0 hBn k4
        generalize rs[k].1 = t1 at *
        generalize rs[k].2.1 = t2 at *
        generalize rs[k].2.2 = t3 at *
        generalize Ba t1 = y1 at *
        generalize Ba t2 = y2 at *
        generalize Ba ro = y3 at *
        by_cases e1 : t1 = S
        · rw [decide_eq_true e1] at q1 HS HT
          by_cases e2 : t2 = ro
          · rw [decide_eq_true e2] at q2 HT
            have HX4 : Hid (M = t3) := (HRO.out k HA.out).trans (HT rfl)
            clear HS HT e1 e2
            go_wp2_with fail
            go_ret
            exact ⟨p3, n3, c3, rfl, by rw [HX4.out]; exact HRl.out, HB0.out.trans (HBn.out.mono HB0.out.size)⟩
          · rw [decide_eq_false e2] at q2 HS
            have HN : Hid (roleOf (rs.drop k) (sp, nm, ro, true, us, bg) = roleOf (rs.drop (k + 1)) (sp, nm, ro, true, us, bg)) := HS rfl
            clear HS HT e1 e2
            go_wp2_with fail
            go_roundw
            case rel => exact ⟨k + 1, by omega, by go_num, HA.out.trans HN.out, HBn.out⟩
            case measure => simp [intOf]; omega
        · rw [decide_eq_false e1] at q1 HS
          have HN : Hid (roleOf (rs.drop k) (sp, nm, ro, true, us, bg) = roleOf (rs.drop (k + 1)) (sp, nm, ro, true, us, bg)) := HS rfl
          clear HS HT e1 q2
          go_wp2_with fail
          go_roundw
          case rel => exact ⟨k + 1, by omega, by go_num, HA.out.trans HN.out, HBn.out⟩
          case measure => simp [intOf]; omega
      · have HX4 : Hid (M = []) := (HRO.out k HA.out).trans (HEnd.out k (by omega))
        go_wp2_with fail
        go_ret
        exact ⟨none, 0, 0, rfl, by rw [HX4.out]; exact Or.inl ⟨rfl, _, _, rfl, fun _ => rfl⟩, HBw.out⟩
  | false =>
    have hSe : S = sp := HSp2.out rfl
    have HQ1' : Hid (∀ s, ((Ba s).toList == (Ba sp).toList) = decide (s = S)) := fun s => by rw [hSe]; exact ba_beq s sp
    clear HQ1 hSe
    have HQ1 := HQ1'
    clear HQ1'
    generalize Ba sp = yS at *
    go_enter Tryd.func40, Tryd.ntmps40
    go_wp2_with fail
    rw [← HW0.out]
    go_loopw [14] (fun i wr => ∃ k : Nat, k ≤ rs.length ∧ i = .int .i64 k ∧ roleOf (rs.drop 0) (sp, nm, ro, false, us, bg) = roleOf (rs.drop k) (sp, nm, ro, false, us, bg) ∧ Below w0.heap.size w0 wr) (fun i _ => rs.length - (intOf i).toNat)
    case atStart => exact ⟨0, Nat.zero_le _, rfl, rfl, Below.refl _ _⟩
    case round =>
      obtain ⟨k, hk, rfl, hall, hbel⟩ := hrel
      have HA : Hid (roleOf (rs.drop 0) (sp, nm, ro, false, us, bg) = roleOf (rs.drop k) (sp, nm, ro, false, us, bg)) := hall
      have HB : Hid (Below w0.heap.size w0 wr) := hbel
      have HBw : Hid (Below w.heap.size w wr) := HB0.out.trans (hbel.mono HB0.out.size)
      clear hall hbel
      by_cases hlt : k < rs.length
      · obtain ⟨g, o, p3, n3, c3, rfl, hlc, k4, hc0⟩ := HC.out k hlt
        obtain ⟨k1, k2, k3⟩ := hc0 wr HBw.out
        have HS := HS0.out k hlt
        have HT := HT0.out k hlt
        have q1 := HQ1.out rs[k].1
        have q2 := HQ2.out rs[k].2.1
        have hBn : Below wr.heap.size wr (wr.alloc (.cells #[.string (Ba rs[k].1), .string (Ba rs[k].2.1), .slice p3 n3 c3] 59)) := (Below.refl _ _).alloc (Nat.le_refl _) _
        have HRl : Hid (Rls w00 (.slice p3 n3 c3) rs[k].2.2) := k4
        have HBn : Hid (Below w0.heap.size w0 (wr.alloc (.cells #[.string (Ba rs[k].1), .string (Ba rs[k].2.1), .slice p3 n3 c3] 59))) := HB.out.trans (hBn.mono HB.out.size)
        obtain ⟨z0, z2, z3⟩ := HBx.out _ HBn.out
        clear hc0 hBn k4
        generalize rs[k].1 = t1 at *
        generalize rs[k].2.1 = t2 at *
        generalize rs[k].2.2 = t3 at *
        generalize Ba t1 = y1 at *
        generalize Ba t2 = y2 at *
        generalize Ba ro = y3 at *
        by_cases e1 : t1 = S
        · rw [decide_eq_true e1] at q1 HS HT
          by_cases e2 : t2 = ro
          · rw [decide_eq_true e2] at q2 HT
            have HX4 : Hid (M = t3) := (HRO.out k HA.out).trans (HT rfl)
            clear HS HT e1 e2
            go_wp2_with fail
            go_ret
            exact ⟨p3, n3, c3, rfl, by rw [HX4.out]; exact HRl.out, HB0.out.trans (HBn.out.mono HB0.out.size)⟩
          · rw [decide_eq_false e2] at q2 HS
            have HN : Hid (roleOf (rs.drop k) (sp, nm, ro, false, us, bg) = roleOf (rs.drop (k + 1)) (sp, nm, ro, false, us, bg)) := HS rfl
            clear HS HT e1 e2
            go_wp2_with fail
            go_roundw
            case rel => exact ⟨k + 1, by omega, by go_num, HA.out.trans HN.out, HBn.out⟩
            case measure => simp [intOf]; omega
        · rw [decide_eq_false e1] at q1 HS
          have HN : Hid (roleOf (rs.drop k) (sp, nm, ro, false, us, bg) = roleOf (rs.drop (k + 1)) (sp, nm, ro, false, us, bg)) := HS rfl
          clear HS HT e1 q2
          go_wp2_with fail
          go_roundw
          case rel => exact ⟨k + 1, by omega, by go_num, HA.out.trans HN.out, HBn.out⟩
          case measure => simp [intOf]; omega
      · have HX4 : Hid (M = []) := (HRO.out k HA.out).trans (HEnd.out k (by omega))
        go_wp2_with fail
        go_ret
        exact ⟨none, 0, 0, rfl, by rw [HX4.out]; exact Or.inl ⟨rfl, _, _, rfl, fun _ => rfl⟩, HBw.out⟩
end Go.Proofs.YtnjjlnhchfoigabDoor
