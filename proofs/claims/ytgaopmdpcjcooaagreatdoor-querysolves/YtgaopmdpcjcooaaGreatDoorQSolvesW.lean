/- The walk of the law QuerySolves over this translation. -/
import Derived.Test.YtgaopmdpcjcooaaGreatDoorQRsTop
import Derived.RegionTactic
import Derived.Laws.StructEq
import Derived.BigRegion
namespace Go.Proofs.YtgaopmdpcjcooaaGreatDoor
open Go.RowKit
set_option linter.unusedVariables false
set_option linter.unusedSimpArgs false
def solvedL (l : List Rq) : List Lb := if chkI l ≠ 0 then [] else (solveP l).getD []
def solvedB (l : List Rq) : Bool := decide (chkI l = 0) && (solveP l).isSome
theorem solved_of {l : List Rq} {w : World} {u : Value} {b : Bool} (h : (chkI l ≠ 0 ∧ b = false ∧ u = .slice none 0 0) ∨ (chkI l = 0 ∧ SolveR l w u b)) : b = solvedB l ∧ Labs w u (solvedL l) := by
  unfold solvedB solvedL
  rcases h with ⟨h1, rfl, rfl⟩ | ⟨h1, h2⟩
  · rw [if_pos h1]
    exact ⟨by simp [h1], Or.inl ⟨rfl, _, _, rfl⟩⟩
  · rw [if_neg (by simp [h1])]
    rcases h2 with ⟨hs, rfl, rfl⟩ | ⟨ls, hs, rfl, hl⟩
    · exact ⟨by simp [hs], by rw [hs]; exact Or.inl ⟨rfl, _, _, rfl⟩⟩
    · exact ⟨by simp [h1, hs], by rw [hs]; exact hl⟩
def impB (l m : List Rq) : Bool := decide (chkI l = 0) && (decide (chkI m = 0) && (impliesP l m).1)
def impL (l m : List Rq) : List Lb := if chkI l ≠ 0 then [] else if chkI m ≠ 0 then [] else (impliesP l m).2
def impE (l m : List Rq) : Int := if chkI l ≠ 0 then chkI l else chkI m
theorem imp_of {l m : List Rq} {w : World} {yes : Bool} {u : Value} {er : Int} (h : ImpR l m w yes u er) : yes = impB l m ∧ Labs w u (impL l m) ∧ er = impE l m := by
  unfold impB impL impE
  rcases h with ⟨h1, rfl, rfl, rfl⟩ | ⟨h1, h2, rfl, rfl, rfl⟩ | ⟨h1, h2, rfl, rfl, hl⟩
  · rw [if_pos h1, if_pos h1]
    exact ⟨by simp [h1], Or.inl ⟨rfl, _, _, rfl⟩, rfl⟩
  · rw [if_neg (by simp [h1]), if_pos h2, if_neg (by simp [h1])]
    exact ⟨by simp [h2], Or.inl ⟨rfl, _, _, rfl⟩, rfl⟩
  · rw [if_neg (by simp [h1]), if_neg (by simp [h2]), if_neg (by simp [h1])]
    exact ⟨by simp [h1, h2], hl, h2.symm⟩
theorem labs_form {w : World} {v : Value} {l : List Lb} (h : Labs w v l) : ∃ p c, v = .slice p l.length c := by
  obtain ⟨p, c, e, _⟩ := h.open
  exact ⟨p, c, e⟩
theorem eq_label (w : World) (a b : ByteArray) : (Op.equalIn 10000 31 (.agg #[.string a, .string b]) (.agg #[.string a, .string b])).run Tryz.prog w = .ok true w := by
  have u3 := Tryz.underlying9
  have a3 := Tryz.isAgg9
  have z3 := Tryz.sizeOf9
  have hS : Tryz.prog.underlying 31 = some (.struct (Tryz.prog.fieldsOf 31)) := by kernel_rfl
  have hp : Tryz.prog.stoodInHeld 31 = false := by kernel_rfl
  rw [show (10000 : Nat) = 9999 + 1 from rfl, run_equalIn_agg w 9999 31 _ _ hS hp]
  simp only [Program.fieldsOf, Tryz.underlying31]
  go_simp
set_option maxRecDepth 100000 in
set_option maxHeartbeats 2000000 in
theorem eqLabs_yes (a b : Value) (l : List Lb) (w : World) (ha : Labs w a l) (hb : Labs w b l) :
    Calls Tryz.prog 9 #[a, b] w fun e w' => e = .returned (.bool true) ∧ Below w.heap.size w w' := by
  obtain ⟨p, c, rfl, hn, hca⟩ := ha.open
  obtain ⟨p2, c2, rfl, hn2, hcb⟩ := hb.open
  have HA : Hid (∀ k (hk : k < l.length), ∃ g o, p = some ⟨g, o, none⟩ ∧ l.length ≤ c ∧ ∀ w1, Below w.heap.size w w1 → ∀ j (hj : j < l.length), w1.cell? ⟨g, o + j * 2, none⟩ = some (.string (Ba l[j].1)) ∧ w1.cell? ⟨g, o + j * 2 + 1, none⟩ = some (.string (Ba l[j].2))) := hca
  have HB : Hid (∀ k (hk : k < l.length), ∃ g o, p2 = some ⟨g, o, none⟩ ∧ l.length ≤ c2 ∧ ∀ w1, Below w.heap.size w w1 → ∀ j (hj : j < l.length), w1.cell? ⟨g, o + j * 2, none⟩ = some (.string (Ba l[j].1)) ∧ w1.cell? ⟨g, o + j * 2 + 1, none⟩ = some (.string (Ba l[j].2))) := hcb
  clear hca hcb ha hb
  unfold maxLen at hn
  go_enter Tryz.func9, Tryz.ntmps9
  go_wp2_with fail
  go_loopw [14] (fun i wr => ∃ k : Nat, k ≤ l.length ∧ i = .int .i64 k ∧ Below w.heap.size w wr) (fun i _ => l.length - (intOf i).toNat)
  case atStart => exact ⟨0, Nat.zero_le _, rfl, Below.refl _ _⟩
  case round =>
    obtain ⟨k, hk, rfl, hbel⟩ := hrel
    have HBe : Hid (Below w.heap.size w wr) := hbel
    clear hbel
    by_cases hlt : k < l.length
    · obtain ⟨g, o, rfl, hlc, hc0⟩ := HA.out k hlt
      obtain ⟨g2, o2, rfl, hlc2, hc02⟩ := HB.out k hlt
      obtain ⟨c1, c2'⟩ := hc0 wr HBe.out k hlt
      obtain ⟨e1, e2'⟩ := hc02 wr HBe.out k hlt
      have hg : g2 < wr.heap.size ∧ g < wr.heap.size := by
        constructor
        · rcases Nat.lt_or_ge g2 wr.heap.size with h | h
          · exact h
          · simp [World.cell?, Array.getElem?_eq_none h] at e1
        · rcases Nat.lt_or_ge g wr.heap.size with h | h
          · exact h
          · simp [World.cell?, Array.getElem?_eq_none h] at c1
      have HBx : Hid (Below w.heap.size w (wr.alloc (.cells #[.string (Ba l[k].1), .string (Ba l[k].2)] 31))) := HBe.out.alloc HBe.out.size _
      have hba : Below wr.heap.size wr (wr.alloc (.cells #[.string (Ba l[k].1), .string (Ba l[k].2)] 31)) := (Below.refl _ _).alloc (Nat.le_refl _) _
      have E1 := (hba.cell (p := ⟨g2, o2 + k * 2, none⟩) hg.1).trans e1
      have E2 := (hba.cell (p := ⟨g2, o2 + k * 2 + 1, none⟩) hg.1).trans e2'
      clear hc0 hc02 e1 e2' hba hg
      generalize l[k] = x at *
      obtain ⟨xk, xv⟩ := x
      dsimp only at *
      generalize Ba xk = z at *
      generalize Ba xv = y at *
      have hne := fun w1 => eq_label w1 z y
      go_wp2_with fail
      go_region_with fail
      all_goals
        have HB3 : Hid (Below w.heap.size w (wr.alloc (.cells #[.string z, .string y] 31)).drew) := HBx.out.drew
        go_wp2_with fail
        go_roundw
        case rel => exact ⟨k + 1, by omega, by go_num, HB3.out⟩
        case measure => simp [intOf]; omega
    · go_wp2_with fail
      go_ret
      exact ⟨rfl, HBe.out⟩
set_option maxRecDepth 100000 in
set_option maxHeartbeats 4000000 in
theorem solves_walk (v u : Value) (l m : List Rq) (w : World) (hv : Reqs w v l) (hg : GoodV v) (hu : Reqs w u m) (hfl : ∀ r ∈ l, Fit r) (hfm : ∀ r ∈ m, Fit r) (hR : Room w) :
    Calls Tryz.prog 3 #[v, u] w fun e w' => e = .returned (.bool true) ∧ Below w.heap.size w w' := by
  have H1 : Hid (∀ w1, Below w.heap.size w w1 → Calls Tryz.prog 5 #[v] w1 fun e w' => ∃ p c, e = .returned (.tuple #[.slice p (solvedL l).length c, .bool (solvedB l), .int .i64 (chkI l)]) ∧ Labs w' (.slice p (solvedL l).length c) (solvedL l) ∧ Below w1.heap.size w1 w') := fun w1 hb => by
    refine (solveTop_any v l w1 (hv.below hb) hfl (hR.below hb)).mono ?_
    rintro e w' ⟨u, b, rfl, h, hb⟩
    obtain ⟨rfl, h2⟩ := solved_of h
    obtain ⟨p, c, rfl⟩ := labs_form h2
    exact ⟨p, c, rfl, h2, hb⟩
  have H2 : Hid (∀ w1, Below w.heap.size w w1 → Calls Tryz.prog 6 #[v] w1 fun e w' => ∃ p c, e = .returned (.tuple #[.slice p (solvedL l).length c, .bool (solvedB l), .int .i64 (chkI l)]) ∧ Labs w' (.slice p (solvedL l).length c) (solvedL l) ∧ Below w1.heap.size w1 w') := fun w1 hb => by
    refine (solveTopR_any v l w1 (hv.below hb) hfl (hR.below hb)).mono ?_
    rintro e w' ⟨u, b, rfl, h, hb⟩
    obtain ⟨rfl, h2⟩ := solved_of h
    obtain ⟨p, c, rfl⟩ := labs_form h2
    exact ⟨p, c, rfl, h2, hb⟩
  have H3 : Hid (∀ w1, Below w.heap.size w w1 → Calls Tryz.prog 7 #[v, u] w1 fun e w' => ∃ p c, e = .returned (.tuple #[.bool (impB l m), .slice p (impL l m).length c, .int .i64 (impE l m)]) ∧ Labs w' (.slice p (impL l m).length c) (impL l m) ∧ Below w1.heap.size w1 w') := fun w1 hb => by
    refine (implies_any v u l m w1 (hv.below hb) hg (hu.below hb) hfl hfm (hR.below hb)).mono ?_
    rintro e w' ⟨y, uu, er, rfl, h, hb⟩
    obtain ⟨rfl, h2, rfl⟩ := imp_of h
    obtain ⟨p, c, rfl⟩ := labs_form h2
    exact ⟨p, c, rfl, h2, hb⟩
  have H4 : Hid (∀ w1, Below w.heap.size w w1 → Calls Tryz.prog 8 #[v, u] w1 fun e w' => ∃ p c, e = .returned (.tuple #[.bool (impB l m), .slice p (impL l m).length c, .int .i64 (impE l m)]) ∧ Labs w' (.slice p (impL l m).length c) (impL l m) ∧ Below w1.heap.size w1 w') := fun w1 hb => by
    refine (impliesR_any v u l m w1 (hv.below hb) hg (hu.below hb) hfl hfm (hR.below hb)).mono ?_
    rintro e w' ⟨y, uu, er, rfl, h, hb⟩
    obtain ⟨rfl, h2, rfl⟩ := imp_of h
    obtain ⟨p, c, rfl⟩ := labs_form h2
    exact ⟨p, c, rfl, h2, hb⟩
  have HEq : Hid (∀ w1 a b ls, Labs w1 a ls → Labs w1 b ls → Calls Tryz.prog 9 #[a, b] w1 fun e w' => e = .returned (.bool true) ∧ Below w1.heap.size w1 w') := fun w1 a b ls ha hb => eqLabs_yes a b ls w1 ha hb
  obtain ⟨pv, cv, rfl, hx1, hx2⟩ := hv.open
  obtain ⟨pu, cu, rfl, hx3, hx4⟩ := hu.open
  clear hv hu hg hfl hfm hR hx1 hx2 hx3 hx4
  generalize solvedL l = L1 at *
  generalize solvedB l = b1 at *
  generalize chkI l = e1 at *
  generalize impL l m = L2 at *
  generalize impB l m = b2 at *
  generalize impE l m = e2 at *
  generalize l.length = nl at *
  generalize m.length = nm at *
  generalize hn1 : L1.length = n1 at *
  generalize hn2 : L2.length = n2 at *
  clear hn1 hn2
  go_enter Tryz.func3, Tryz.ntmps3
  go_wp2_with fail
  refine Calls.mono (H1.out _ (Below.refl _ _)) ?_
  rintro e w1 ⟨p1, c1, rfl, hl1, b⟩
  have HB1 : Hid (Below w.heap.size w w1) := b
  have HL1 : Hid (Labs w1 (.slice p1 n1 c1) L1) := hl1
  clear b hl1
  go_wp2_with fail
  refine Calls.mono (H2.out _ HB1.out) ?_
  rintro e w2 ⟨p2, c2, rfl, hl2, b⟩
  have HB2 : Hid (Below w.heap.size w w2) := HB1.out.trans (b.mono HB1.out.size)
  have HL1' : Hid (Labs w2 (.slice p1 n1 c1) L1) := HL1.out.below b
  have HL2 : Hid (Labs w2 (.slice p2 n1 c2) L1) := hl2
  clear b hl2 HL1
  go_wp2_with fail
  refine Calls.mono (H3.out _ HB2.out) ?_
  rintro e w3 ⟨p3, c3, rfl, hl3, b⟩
  have HB3 : Hid (Below w.heap.size w w3) := HB2.out.trans (b.mono HB2.out.size)
  have HM1 : Hid (Labs w3 (.slice p1 n1 c1) L1) := HL1'.out.below b
  have HM2 : Hid (Labs w3 (.slice p2 n1 c2) L1) := HL2.out.below b
  have HM3 : Hid (Labs w3 (.slice p3 n2 c3) L2) := hl3
  clear b hl3 HL1' HL2
  go_wp2_with fail
  refine Calls.mono (H4.out _ HB3.out) ?_
  rintro e w4 ⟨p4, c4, rfl, hl4, b⟩
  have HB4 : Hid (Below w.heap.size w w4) := HB3.out.trans (b.mono HB3.out.size)
  have HE1 : Hid (_) := HEq.out w4 _ _ L1 (HM1.out.below b) (HM2.out.below b)
  have HN3 : Hid (Labs w4 (.slice p3 n2 c3) L2) := HM3.out.below b
  have HN4 : Hid (Labs w4 (.slice p4 n2 c4) L2) := hl4
  clear b hl4 HM1 HM2 HM3
  go_wp2_with fail
  refine Calls.mono HE1.out ?_
  rintro e w5 ⟨rfl, b⟩
  have HB5 : Hid (Below w.heap.size w w5) := HB4.out.trans (b.mono HB4.out.size)
  have HE2 : Hid (_) := HEq.out w5 _ _ L2 (HN3.out.below b) (HN4.out.below b)
  clear b
  go_wp2_with fail
  refine Calls.mono HE2.out ?_
  rintro e w6 ⟨rfl, b⟩
  have HB6 : Hid (Below w.heap.size w w6) := HB5.out.trans (b.mono HB5.out.size)
  clear b
  go_wp2_with fail
  go_ret
  exact ⟨rfl, HB6.out⟩
end Go.Proofs.YtgaopmdpcjcooaaGreatDoor
