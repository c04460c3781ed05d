/- Contract over this translation: grants.checkBind. -/
import Derived.Test.YtnjjlnhchfoigabDoorGrRole
namespace Go.Proofs.YtnjjlnhchfoigabDoor
open Go.RowKit
set_option linter.unusedVariables false
set_option linter.unusedSimpArgs false
theorem bx6 {w w1 : World} {a b c d e f : Value} {t : TypeId} (h : Below (w.alloc (.cells #[a, b, c, d, e, f] t)).heap.size (w.alloc (.cells #[a, b, c, d, e, f] t)) w1) :
    w1.cell? ⟨w.heap.size, 0, none⟩ = some a ∧ w1.cell? ⟨w.heap.size, 1, none⟩ = some b ∧ w1.cell? ⟨w.heap.size, 2, none⟩ = some c ∧ w1.cell? ⟨w.heap.size, 3, none⟩ = some d ∧ w1.cell? ⟨w.heap.size, 4, none⟩ = some e ∧ w1.cell? ⟨w.heap.size, 5, none⟩ = some f := by
  have hs : w.heap.size < (w.alloc (.cells #[a, b, c, d, e, f] t)).heap.size := by simp
  refine ⟨?_, ?_, ?_, ?_, ?_, ?_⟩
  all_goals (rw [h.cell (p := ⟨w.heap.size, _, none⟩) hs, World.cell?_alloc_at _ _ _ _ rfl]; rfl)
/-- binds, taken apart -/
theorem bis_open {w : World} {v : Value} {l : List Bi} (h : Bis w v l) :
    ∃ p c, v = .slice p l.length c ∧ l.length ≤ maxLen ∧ ∀ k (hk : k < l.length), ∃ g o, p = some ⟨g, o, none⟩ ∧ l.length ≤ c ∧ g < w.heap.size ∧ ∀ w1, Below w.heap.size w w1 → ∃ p4 c4 p5 c5,
      w1.cell? ⟨g, o + k * 6, none⟩ = some (.string (Ba l[k].1)) ∧ w1.cell? ⟨g, o + k * 6 + 1, none⟩ = some (.string (Ba l[k].2.1)) ∧ w1.cell? ⟨g, o + k * 6 + 2, none⟩ = some (.string (Ba l[k].2.2.1)) ∧ w1.cell? ⟨g, o + k * 6 + 3, none⟩ = some (.bool l[k].2.2.2.1) ∧
      w1.cell? ⟨g, o + k * 6 + 4, none⟩ = some (.slice p4 l[k].2.2.2.2.1.length c4) ∧ w1.cell? ⟨g, o + k * 6 + 5, none⟩ = some (.slice p5 l[k].2.2.2.2.2.length c5) ∧ Strs w1 (.slice p4 l[k].2.2.2.2.1.length c4) l[k].2.2.2.2.1 ∧ Strs w1 (.slice p5 l[k].2.2.2.2.2.length c5) l[k].2.2.2.2.2 := by
  obtain ⟨p, c, e, hn, hc⟩ := Sq.open biAt_stays h
  refine ⟨p, c, e, hn, fun k hk => ?_⟩
  obtain ⟨g, o, h1, h2, h3, h4⟩ := hc k hk
  refine ⟨g, o, h1, h2, h3, fun w1 hb => ?_⟩
  obtain ⟨k1, k2, k3, k4, u, v, k5, k6, s5, s6⟩ := h4 w1 hb
  obtain ⟨p4, c4, rfl, _⟩ := s5.form
  obtain ⟨p5, c5, rfl, _⟩ := s6.form
  exact ⟨p4, c4, p5, c5, k1, k2, k3, k4, k5, k6, s5, s6⟩
theorem bind_step {ls : List Bi} {r : Bi} {k : Nat} (hk : k < ls.length) (h : (decide (ls[k].1 = r.1) && decide (ls[k].2.1 = r.2.1)) = false) : bindB (ls.drop k) r = bindB (ls.drop (k + 1)) r := by
  unfold bindB
  rw [List.drop_eq_getElem_cons hk, List.any_cons, h]; rfl
theorem bind_hit {ls : List Bi} {r : Bi} {k : Nat} (hk : k < ls.length) (h : (decide (ls[k].1 = r.1) && decide (ls[k].2.1 = r.2.1)) = true) : bindB (ls.drop k) r = true := by
  unfold bindB
  rw [List.drop_eq_getElem_cons hk, List.any_cons, h]; rfl
theorem bind_end {ls : List Bi} {r : Bi} {k : Nat} (hk : ls.length ≤ k) : bindB (ls.drop k) r = false := by
  rw [List.drop_eq_nil_of_le hk]; rfl
def restI (b : Bi) : Int := orE (ifE (decide (b.1 = []) && !b.2.2.2.1) 1) (orE (ifE (decide (6 < b.2.2.2.2.1.length) || decide (6 < b.2.2.2.2.2.length)) 2) (orE (firstE cI b.2.2.2.2.1) (firstE cI b.2.2.2.2.2)))
theorem bind_e1 {p : List Bi} {r : Bi} (h : placeI r.1 r.2.1 ≠ 0) : bindI p r = placeI r.1 r.2.1 := orE_l h
theorem bind_e2 {p : List Bi} {r : Bi} (h : placeI r.1 r.2.1 = 0) (g : cI r.2.2.1 ≠ 0) : bindI p r = cI r.2.2.1 := by
  unfold bindI; rw [orE_r h, orE_l g]
theorem bind_e3 {p : List Bi} {r : Bi} (h : placeI r.1 r.2.1 = 0) (g : cI r.2.2.1 = 0) (k : bindB p r = true) : bindI p r = 5 := by
  unfold bindI; rw [orE_r h, orE_r g, k]; rfl
theorem bind_e4 {p : List Bi} {r : Bi} (h : placeI r.1 r.2.1 = 0) (g : cI r.2.2.1 = 0) (k : bindB p r = false) : bindI p r = restI r := by
  unfold bindI; rw [orE_r h, orE_r g, k]; rfl
theorem rest_1 {b : Bi} (h : b.1 = []) (g : b.2.2.2.1 = false) : restI b = 1 := by
  unfold restI; rw [decide_eq_true h, g]; rfl
theorem rest_2 {b : Bi} (h : ¬ b.1 = [] ∨ b.2.2.2.1 = true) (g : 6 < b.2.2.2.2.1.length ∨ 6 < b.2.2.2.2.2.length) : restI b = 2 := by
  unfold restI
  have e1 : (decide (b.1 = []) && !b.2.2.2.1) = false := by rcases h with h | h <;> simp [h]
  have e2 : (decide (6 < b.2.2.2.2.1.length) || decide (6 < b.2.2.2.2.2.length)) = true := by rcases g with g | g <;> simp [g]
  rw [e1, e2]; rfl
theorem rest_3 {b : Bi} (h : ¬ b.1 = [] ∨ b.2.2.2.1 = true) (g : ¬ 6 < b.2.2.2.2.1.length) (k : ¬ 6 < b.2.2.2.2.2.length) : restI b = orE (firstE cI b.2.2.2.2.1) (firstE cI b.2.2.2.2.2) := by
  unfold restI
  have e1 : (decide (b.1 = []) && !b.2.2.2.1) = false := by rcases h with h | h <;> simp [h]
  rw [e1, decide_eq_false g, decide_eq_false k]; rfl
set_option maxRecDepth 100000 in
set_option maxHeartbeats 8000000 in
theorem bind_any (r : Bi) (u v x : Value) (ls : List Bi) (w : World) (hu : Strs w u r.2.2.2.2.1) (hx : Strs w x r.2.2.2.2.2) (hv : Bis w v ls) (hf : FitB r) :
    Calls Tryd.prog 65 #[.agg #[.string (Ba r.1), .string (Ba r.2.1), .string (Ba r.2.2.1), .bool r.2.2.2.1, u, x], v] w fun e w' => e = .returned (.int .i64 (bindI ls r)) ∧ Below w.heap.size w w' := by
  obtain ⟨sp, nm, ro, wh, us, gs⟩ := r
  dsimp only at *
  obtain ⟨p4, c4, rfl, hn4⟩ := hu.form
  obtain ⟨p5, c5, rfl, hn5⟩ := hx.form
  obtain ⟨p, c, rfl, hn, hcell⟩ := bis_open hv
  have HC : Hid (∀ k (hk : k < ls.length), ∃ g o, p = some ⟨g, o, none⟩ ∧ ls.length ≤ c ∧ g < w.heap.size ∧ ∀ w1, Below w.heap.size w w1 → ∃ y3 b4 p4 n4 c4 p5 n5 c5,
      w1.cell? ⟨g, o + k * 6, none⟩ = some (.string (Ba ls[k].1)) ∧ w1.cell? ⟨g, o + k * 6 + 1, none⟩ = some (.string (Ba ls[k].2.1)) ∧ w1.cell? ⟨g, o + k * 6 + 2, none⟩ = some (.string y3) ∧ w1.cell? ⟨g, o + k * 6 + 3, none⟩ = some (.bool b4) ∧
      w1.cell? ⟨g, o + k * 6 + 4, none⟩ = some (.slice p4 n4 c4) ∧ w1.cell? ⟨g, o + k * 6 + 5, none⟩ = some (.slice p5 n5 c5)) := fun k hk => by
    obtain ⟨g, o, h1, h2, h3, h4⟩ := hcell k hk
    refine ⟨g, o, h1, h2, h3, fun w1 hb => ?_⟩
    obtain ⟨p4, c4, p5, c5, k1, k2, k3, k4, k5, k6, _⟩ := h4 w1 hb
    exact ⟨_, _, p4, _, c4, p5, _, c5, k1, k2, k3, k4, k5, k6⟩
  have HU : Hid (∀ w1, Below w.heap.size w w1 → Calls Tryd.prog 43 #[.slice p4 us.length c4] w1 fun e w' => e = .returned (.int .i64 (firstE cI us)) ∧ w' = w1) := fun w1 hb => names_any _ us w1 (hu.below hb) hf.2.2.2.1
  have HG : Hid (∀ w1, Below w.heap.size w w1 → Calls Tryd.prog 43 #[.slice p5 gs.length c5] w1 fun e w' => e = .returned (.int .i64 (firstE cI gs)) ∧ w' = w1) := fun w1 hb => names_any _ gs w1 (hx.below hb) hf.2.2.2.2
  have HRo : Hid (∀ w1, Calls Tryd.prog 53 #[.string (Ba ro)] w1 fun e w' => e = .returned (.int .i64 (cI ro)) ∧ w' = w1) := fun w1 => cI_any ro w1 hf.2.2.1
  have HPl : Hid (∀ w1, Calls Tryd.prog 73 #[.string (Ba sp), .string (Ba nm)] w1 fun e w' => e = .returned (.int .i64 (placeI sp nm)) ∧ w' = w1) := fun w1 => place_any sp nm w1 hf.1 hf.2.1
  have HE1 : Hid (placeI sp nm ≠ 0 → bindI ls (sp, nm, ro, wh, us, gs) = placeI sp nm) := bind_e1 (p := ls) (r := (sp, nm, ro, wh, us, gs))
  have HE2 : Hid (placeI sp nm = 0 → cI ro ≠ 0 → bindI ls (sp, nm, ro, wh, us, gs) = cI ro) := bind_e2 (p := ls) (r := (sp, nm, ro, wh, us, gs))
  have HE3 : Hid (placeI sp nm = 0 → cI ro = 0 → bindB (ls.drop 0) (sp, nm, ro, wh, us, gs) = true → bindI ls (sp, nm, ro, wh, us, gs) = 5) := bind_e3 (p := ls) (r := (sp, nm, ro, wh, us, gs))
  have HE4 : Hid (placeI sp nm = 0 → cI ro = 0 → bindB (ls.drop 0) (sp, nm, ro, wh, us, gs) = false → bindI ls (sp, nm, ro, wh, us, gs) = restI (sp, nm, ro, wh, us, gs)) := bind_e4 (p := ls) (r := (sp, nm, ro, wh, us, gs))
  have HR1 : Hid (sp = [] → wh = false → restI (sp, nm, ro, wh, us, gs) = 1) := rest_1 (b := (sp, nm, ro, wh, us, gs))
  have HR2 : Hid ((¬ sp = [] ∨ wh = true) → (6 < us.length ∨ 6 < gs.length) → restI (sp, nm, ro, wh, us, gs) = 2) := rest_2 (b := (sp, nm, ro, wh, us, gs))
  have HR3 : Hid ((¬ sp = [] ∨ wh = true) → ¬ 6 < us.length → ¬ 6 < gs.length → restI (sp, nm, ro, wh, us, gs) = orE (firstE cI us) (firstE cI gs)) := rest_3 (b := (sp, nm, ro, wh, us, gs))
  have HBx : Hid (∀ w1, Below (w.alloc (.cells #[.string (Ba sp), .string (Ba nm), .string (Ba ro), .bool wh, .slice p4 us.length c4, .slice p5 gs.length c5] 61)).heap.size (w.alloc (.cells #[.string (Ba sp), .string (Ba nm), .string (Ba ro), .bool wh, .slice p4 us.length c4, .slice p5 gs.length c5] 61)) w1 →
      w1.cell? ⟨w.heap.size, 0, none⟩ = some (.string (Ba sp)) ∧ w1.cell? ⟨w.heap.size, 1, none⟩ = some (.string (Ba nm)) ∧ w1.cell? ⟨w.heap.size, 2, none⟩ = some (.string (Ba ro)) ∧ w1.cell? ⟨w.heap.size, 3, none⟩ = some (.bool wh) ∧ w1.cell? ⟨w.heap.size, 4, none⟩ = some (.slice p4 us.length c4) ∧ w1.cell? ⟨w.heap.size, 5, none⟩ = some (.slice p5 gs.length c5)) := fun w1 h => bx6 h
  have HS0 : Hid (∀ k (hk : k < ls.length), (decide (ls[k].1 = sp) && decide (ls[k].2.1 = nm)) = false → bindB (ls.drop k) (sp, nm, ro, wh, us, gs) = bindB (ls.drop (k + 1)) (sp, nm, ro, wh, us, gs)) := fun k hk h => bind_step hk h
  have HT0 : Hid (∀ k (hk : k < ls.length), (decide (ls[k].1 = sp) && decide (ls[k].2.1 = nm)) = true → bindB (ls.drop k) (sp, nm, ro, wh, us, gs) = true) := fun k hk h => bind_hit hk h
  have HQ0 : Hid (((Ba sp).toList == []) = decide (sp = [])) := ba_is sp []
  have HQ1 : Hid (∀ s, ((Ba s).toList == (Ba sp).toList) = decide (s = sp)) := fun s => ba_beq s sp
  have HQ2 : Hid (∀ s, ((Ba s).toList == (Ba nm).toList) = decide (s = nm)) := fun s => ba_beq s nm
  have HEnd : Hid (∀ k, ls.length ≤ k → bindB (ls.drop k) (sp, nm, ro, wh, us, gs) = false) := fun k hk => bind_end hk
  obtain ⟨w0, hw0⟩ : ∃ w0, w0 = w.alloc (.cells #[.string (Ba sp), .string (Ba nm), .string (Ba ro), .bool wh, .slice p4 us.length c4, .slice p5 gs.length c5] 61) := ⟨_, rfl⟩
  have hB0 : Below w.heap.size w w0 := by rw [hw0]; exact (Below.refl _ _).alloc (Nat.le_refl _) _
  have HB0 : Hid (Below w.heap.size w w0) := hB0
  rw [← hw0] at HBx
  have HW0 : Hid (w0 = w.alloc (.cells #[.string (Ba sp), .string (Ba nm), .string (Ba ro), .bool wh, .slice p4 us.length c4, .slice p5 gs.length c5] 61)) := hw0
  obtain ⟨x0, x1, x2, x3, x4, x5⟩ := HBx.out w0 (Below.refl _ _)
  clear hcell hf hv hu hx hw0 hB0
  generalize bindI ls (sp, nm, ro, wh, us, gs) = res at *
  generalize restI (sp, nm, ro, wh, us, gs) = rest at *
  generalize placeI sp nm = pl at *
  generalize cI ro = cr at *
  generalize firstE cI us = eu at *
  generalize firstE cI gs = eg at *
  generalize us.length = l4 at *
  generalize gs.length = l5 at *
  unfold maxLen at hn hn4 hn5
  by_cases h1 : pl = 0
  · have hb1 : (pl != 0) = false := by simp [h1]
    by_cases h2 : cr = 0
    · have hb2 : (cr != 0) = false := by simp [h2]
      have HX3 : Hid (bindB (ls.drop 0) (sp, nm, ro, wh, us, gs) = true → res = 5) := HE3.out h1 h2
      have HX4 : Hid (bindB (ls.drop 0) (sp, nm, ro, wh, us, gs) = false → res = rest) := HE4.out h1 h2
      clear HE1 HE2 HE3 HE4 h1 h2
      generalize hys : Ba sp = ys at *
      generalize hyn : Ba nm = yn at *
      generalize hyr : Ba ro = yr at *
      go_enter Tryd.func65, Tryd.ntmps65
      go_wp2_with fail
      rw [← HW0.out]
      refine Calls.mono (HPl.out _) ?_
      rintro e w1 ⟨rfl, hw1⟩
      obtain rfl : w0 = w1 := hw1.symm
      go_wp2_with fail
      refine Calls.mono (HRo.out _) ?_
      rintro e w1 ⟨rfl, hw1⟩
      obtain rfl : w0 = w1 := hw1.symm
      go_wp2_with fail
      clear x0 x1 x2 x3 x4 x5
      go_loopw [26] (fun i wr => ∃ k : Nat, k ≤ ls.length ∧ i = .int .i64 k ∧ bindB (ls.drop 0) (sp, nm, ro, wh, us, gs) = bindB (ls.drop k) (sp, nm, ro, wh, us, gs) ∧ Below w0.heap.size w0 wr) (fun i _ => ls.length - (intOf i).toNat)
      case atStart => exact ⟨0, Nat.zero_le _, rfl, rfl, Below.refl _ _⟩
      case round =>
        obtain ⟨k, hk, rfl, hall, hbel⟩ := hrel
        have HA : Hid (bindB (ls.drop 0) (sp, nm, ro, wh, us, gs) = bindB (ls.drop k) (sp, nm, ro, wh, us, gs)) := hall
        have HB : Hid (Below w0.heap.size w0 wr) := hbel
        have HBw : Hid (Below w.heap.size w wr) := HB0.out.trans (hbel.mono HB0.out.size)
        obtain ⟨x0, x1, x2, x3, x4, x5⟩ := HBx.out wr hbel
        clear hall hbel
        by_cases hlt : k < ls.length
        · obtain ⟨g, o, rfl, hlc, hg, hc0⟩ := HC.out k hlt
          obtain ⟨y3, b4, q4, n4, d4, q5, n5, d5, k1, k2, k3, k4, k5, k6⟩ := hc0 wr HBw.out
          have HS := HS0.out k hlt
          have HT := HT0.out k hlt
          have q1 := HQ1.out ls[k].1
          have q2 := HQ2.out ls[k].2.1
          have hBn : Below wr.heap.size wr (wr.alloc (.cells #[.string (Ba ls[k].1), .string (Ba ls[k].2.1), .string y3, .bool b4, .slice q4 n4 d4, .slice q5 n5 d5] 61)) := (Below.refl _ _).alloc (Nat.le_refl _) _
          have HBn : Hid (Below w0.heap.size w0 (wr.alloc (.cells #[.string (Ba ls[k].1), .string (Ba ls[k].2.1), .string y3, .bool b4, .slice q4 n4 d4, .slice q5 n5 d5] 61))) := HB.out.trans (hBn.mono HB.out.size)
          obtain ⟨z0, z1, z2, z3, z4, z5⟩ := HBx.out _ HBn.out
          clear hc0 hBn
          generalize ls[k].1 = t1 at *
          generalize ls[k].2.1 = t2 at *
          generalize Ba t1 = y1 at *
          generalize Ba t2 = y2 at *
          by_cases e1 : t1 = sp
          · rw [decide_eq_true e1] at q1 HS HT
            by_cases e2 : t2 = nm
            · rw [decide_eq_true e2] at q2 HT
              have HX5 : Hid (res = 5) := HX3.out (HA.out.trans (HT rfl))
              clear HS HT e1 e2
              go_wp2_with fail
              go_ret
              exact ⟨by rw [HX5.out]; rfl, HB0.out.trans (HBn.out.mono HB0.out.size)⟩
            · rw [decide_eq_false e2] at q2 HS
              have HN : Hid (bindB (ls.drop k) (sp, nm, ro, wh, us, gs) = bindB (ls.drop (k + 1)) (sp, nm, ro, wh, us, gs)) := HS rfl
              clear HS HT e1 e2
              go_wp2_with fail
              go_roundw
              case rel => exact ⟨k + 1, by omega, by go_num, HA.out.trans HN.out, HBn.out⟩
              case measure => simp [intOf]; omega
          · rw [decide_eq_false e1] at q1 HS
            have HN : Hid (bindB (ls.drop k) (sp, nm, ro, wh, us, gs) = bindB (ls.drop (k + 1)) (sp, nm, ro, wh, us, gs)) := HS rfl
            clear HS HT e1 q2
            go_wp2_with fail
            go_roundw
            case rel => exact ⟨k + 1, by omega, by go_num, HA.out.trans HN.out, HBn.out⟩
            case measure => simp [intOf]; omega
        · have HX5 : Hid (res = rest) := HX4.out (HA.out.trans (HEnd.out k (by omega)))
          have HUw : Hid (Calls Tryd.prog 43 #[.slice p4 l4 c4] wr fun e w' => e = .returned (.int .i64 eu) ∧ w' = wr) := HU.out wr HBw.out
          have HGw : Hid (Calls Tryd.prog 43 #[.slice p5 l5 c5] wr fun e w' => e = .returned (.int .i64 eg) ∧ w' = wr) := HG.out wr HBw.out
          have q0 := HQ0.out
          clear HX3 HX4
          by_cases hs : sp = []
          · rw [decide_eq_true hs] at q0
            cases wh with
            | false =>
              have HX7 : Hid (res = 1) := HX5.out.trans (HR1.out hs rfl)
              clear HR1 HR2 HR3 hs
              go_wp2_with fail
              go_ret
              exact ⟨by rw [HX7.out]; rfl, HBw.out⟩
            | true =>
              by_cases g4 : 6 < l4
              · have i4 : (6 : Int) < (l4 : Int) := by omega
                have HX7 : Hid (res = 2) := HX5.out.trans (HR2.out (Or.inr rfl) (Or.inl g4))
                clear HR1 HR2 HR3
                clear hs
                go_wp2_with fail
                go_ret
                exact ⟨by rw [HX7.out]; rfl, HBw.out⟩
              have i4 : ¬ (6 : Int) < (l4 : Int) := by omega
              by_cases g5 : 6 < l5
              · have i5 : (6 : Int) < (l5 : Int) := by omega
                have HX7 : Hid (res = 2) := HX5.out.trans (HR2.out (Or.inr rfl) (Or.inr g5))
                clear HR1 HR2 HR3
                clear hs
                go_wp2_with fail
                go_ret
                exact ⟨by rw [HX7.out]; rfl, HBw.out⟩
              have i5 : ¬ (6 : Int) < (l5 : Int) := by omega
              by_cases hu : eu = 0
              · have hbu : (eu != 0) = false := by simp [hu]
                have HX7 : Hid (res = eg) := by show _ = _; rw [HX5.out, HR3.out (Or.inr rfl) g4 g5, orE_r hu]
                clear HR1 HR2 HR3
                clear hs
                go_wp2_with fail
                refine Calls.mono HUw.out ?_
                rintro e w1 ⟨rfl, hw1⟩
                obtain rfl : wr = w1 := hw1.symm
                go_wp2_with fail
                refine Calls.mono HGw.out ?_
                rintro e w1 ⟨rfl, hw1⟩
                obtain rfl : wr = w1 := hw1.symm
                go_wp2_with fail
                go_ret
                exact ⟨by rw [HX7.out]; rfl, HBw.out⟩
              · have hbu : (eu != 0) = true := by simpa using hu
                have HX7 : Hid (res = eu) := by show _ = _; rw [HX5.out, HR3.out (Or.inr rfl) g4 g5, orE_l hu]
                clear HR1 HR2 HR3
                clear hs
                go_wp2_with fail
                refine Calls.mono HUw.out ?_
                rintro e w1 ⟨rfl, hw1⟩
                obtain rfl : wr = w1 := hw1.symm
                go_wp2_with fail
                go_ret
                exact ⟨by rw [HX7.out]; rfl, HBw.out⟩
          · rw [decide_eq_false hs] at q0
            by_cases g4 : 6 < l4
            · have i4 : (6 : Int) < (l4 : Int) := by omega
              have HX7 : Hid (res = 2) := HX5.out.trans (HR2.out (Or.inl hs) (Or.inl g4))
              clear HR1 HR2 HR3
              clear hs
              go_wp2_with fail
              go_ret
              exact ⟨by rw [HX7.out]; rfl, HBw.out⟩
            have i4 : ¬ (6 : Int) < (l4 : Int) := by omega
            by_cases g5 : 6 < l5
            · have i5 : (6 : Int) < (l5 : Int) := by omega
              have HX7 : Hid (res = 2) := HX5.out.trans (HR2.out (Or.inl hs) (Or.inr g5))
              clear HR1 HR2 HR3
              clear hs
              go_wp2_with fail
              go_ret
              exact ⟨by rw [HX7.out]; rfl, HBw.out⟩
            have i5 : ¬ (6 : Int) < (l5 : Int) := by omega
            by_cases hu : eu = 0
            · have hbu : (eu != 0) = false := by simp [hu]
              have HX7 : Hid (res = eg) := by show _ = _; rw [HX5.out, HR3.out (Or.inl hs) g4 g5, orE_r hu]
              clear HR1 HR2 HR3
              clear hs
              go_wp2_with fail
              refine Calls.mono HUw.out ?_
              rintro e w1 ⟨rfl, hw1⟩
              obtain rfl : wr = w1 := hw1.symm
              go_wp2_with fail
              refine Calls.mono HGw.out ?_
              rintro e w1 ⟨rfl, hw1⟩
              obtain rfl : wr = w1 := hw1.symm
              go_wp2_with fail
              go_ret
              exact ⟨by rw [HX7.out]; rfl, HBw.out⟩
            · have hbu : (eu != 0) = true := by simpa using hu
              have HX7 : Hid (res = eu) := by show _ = _; rw [HX5.out, HR3.out (Or.inl hs) g4 g5, orE_l hu]
              clear HR1 HR2 HR3
              clear hs
              go_wp2_with fail
              refine Calls.mono HUw.out ?_
              rintro e w1 ⟨rfl, hw1⟩
              obtain rfl : wr = w1 := hw1.symm
              go_wp2_with fail
              go_ret
              exact ⟨by rw [HX7.out]; rfl, HBw.out⟩
    · have hb2 : (cr != 0) = true := by simpa using h2
      have HX : Hid (res = cr) := HE2.out h1 h2
      clear HE1 HE2 HE3 HE4 h1 h2
      generalize Ba sp = ys at *
      generalize Ba nm = yn at *
      generalize Ba ro = yr at *
      go_enter Tryd.func65, Tryd.ntmps65
      go_wp2_with fail
      rw [← HW0.out]
      refine Calls.mono (HPl.out _) ?_
      rintro e w1 ⟨rfl, hw1⟩
      obtain rfl : w0 = w1 := hw1.symm
      go_wp2_with fail
      refine Calls.mono (HRo.out _) ?_
      rintro e w1 ⟨rfl, hw1⟩
      obtain rfl : w0 = w1 := hw1.symm
      go_wp2_with fail
      go_ret
      exact ⟨by rw [HX.out]; rfl, HB0.out⟩
  · have hb1 : (pl != 0) = true := by simpa using h1
    have HX : Hid (res = pl) := HE1.out h1
    clear HE1 HE2 HE3 HE4 h1
    generalize Ba sp = ys at *
    generalize Ba nm = yn at *
    generalize Ba ro = yr at *
    go_enter Tryd.func65, Tryd.ntmps65
    go_wp2_with fail
    rw [← HW0.out]
    refine Calls.mono (HPl.out _) ?_
    rintro e w1 ⟨rfl, hw1⟩
    obtain rfl : w0 = w1 := hw1.symm
    go_wp2_with fail
    go_ret
    exact ⟨by rw [HX.out]; rfl, HB0.out⟩
end Go.Proofs.YtnjjlnhchfoigabDoor
