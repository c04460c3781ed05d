/- Contracts over this translation: the document's QueryCheck. -/
import Derived.Test.YtgaopmdpcjcooaaGreatDoorQCheck
import Derived.Test.YtgaopmdpcjcooaaGreatDoorRefKeys
import Derived.Deep.QuietTactic
import Derived.BigQuiet
import Derived.Laws.Cover1
namespace Go.Proofs.YtgaopmdpcjcooaaGreatDoor
open Go.RowKit
set_option linter.unusedVariables false
set_option linter.unusedSimpArgs false
theorem kR_any (s : Bs) (w : World) (hR : Room w) : Calls Tryz.prog 39 #[.string (Ba s)] w fun e w' => e = .returned (.int .i64 (kI s)) ∧ Below w.heap.size w w' := by
  obtain ⟨_, m, hm⟩ := hR
  exact keyR_any (Ba s) m w hm
theorem vR_any (s : Bs) (w : World) (hs : s.length ≤ maxLen) : Calls Tryz.prog 40 #[.string (Ba s)] w fun e w' => e = .returned (.int .i64 (vI s)) ∧ w' = w :=
  valR_any (Ba s) w (by rw [ba_size]; exact hs)
theorem fits_no {kd : Int} {n : Nat} (h : fitsB kd n = false) : kd < 1 ∨ (1 ≤ kd ∧ 4 < kd) ∨ (1 ≤ kd ∧ kd ≤ 4 ∧ ∃ b : Bool, decide (kd < 3) = b ∧ ((n : Int) == 0) = b) := by
  by_cases h1 : kd < 1
  · exact Or.inl h1
  · by_cases h2 : 4 < kd
    · exact Or.inr (Or.inl ⟨by omega, h2⟩)
    · refine Or.inr (Or.inr ⟨by omega, by omega, _, rfl, ?_⟩)
      rw [nat_beq]
      have : kd = 1 ∨ kd = 2 ∨ kd = 3 ∨ kd = 4 := by omega
      rcases this with rfl | rfl | rfl | rfl <;> simp [fitsB] at h ⊢ <;> omega
theorem fits_yes {kd : Int} {n : Nat} (h : fitsB kd n = true) : 1 ≤ kd ∧ kd ≤ 4 ∧ ∃ b : Bool, decide (kd < 3) = b ∧ ((n : Int) == 0) = !b := by
  rcases fits_kind h with rfl | rfl | rfl | rfl <;> simp [fitsB] at h ⊢ <;> omega
set_option maxRecDepth 100000 in
set_option maxHeartbeats 4000000 in
theorem qcheckR_any (v : Value) (l : List Rq) (w : World) (hv : Reqs w v l) (hf : ∀ r ∈ l, Fit r) (hR : Room w) :
    Calls Tryz.prog 22 #[v] w fun e w' => e = .returned (.int .i64 (chkI l)) ∧ Below w.heap.size w w' := by
  obtain ⟨p, c, rfl, hn, hcell⟩ := hv.open
  have HC : Hid (∀ k (hk : k < l.length), ∃ g o q d, p = some ⟨g, o, none⟩ ∧ l.length ≤ c ∧ ∀ w1, Below w.heap.size w w1 → w1.cell? ⟨g, o + k * 3, none⟩ = some (.string (Ba l[k].1)) ∧ w1.cell? ⟨g, o + k * 3 + 1, none⟩ = some (.int .i64 l[k].2.1) ∧ w1.cell? ⟨g, o + k * 3 + 2, none⟩ = some (.slice q l[k].2.2.length d) ∧
      l[k].2.2.length ≤ maxLen ∧ ∀ j (hj : j < l[k].2.2.length), ∃ g2 o2, q = some ⟨g2, o2, none⟩ ∧ l[k].2.2.length ≤ d ∧ ∀ w2, Below w1.heap.size w1 w2 → w2.cell? ⟨g2, o2 + j, none⟩ = some (.string (Ba l[k].2.2[j]))) := by
    intro k hk
    obtain ⟨g, o, q, d, h1, h2, h3⟩ := hcell k hk
    refine ⟨g, o, q, d, h1, h2, fun w1 hb => ?_⟩
    obtain ⟨c1, c2, c3, c4⟩ := h3 w1 hb
    obtain ⟨p5, c5, e5, n5, h5⟩ := c4.open
    simp only [Value.slice.injEq] at e5
    obtain ⟨rfl, _, rfl⟩ := e5
    exact ⟨c1, c2, c3, n5, h5⟩
  have HK : Hid (∀ (s : Bs) w1, Below w.heap.size w w1 → Calls Tryz.prog 39 #[.string (Ba s)] w1 fun e w' => e = .returned (.int .i64 (kI s)) ∧ Below w1.heap.size w1 w') := fun s w1 hb => kR_any s w1 (hR.below hb)
  have HF : Hid (∀ r ∈ l, Fit r) := hf
  have HL : Hid (8 < l.length → chkI l = 2) := chk_long
  have HS : Hid (¬ 8 < l.length → chkI l = firstE partI (l.drop 0)) := chk_short
  clear hcell hf hR hv
  generalize chkI l = res at *
  unfold maxLen at hn
  by_cases h8 : 8 < l.length
  · have hI : (8 : Int) < (l.length : Int) := by omega
    have HX : Hid (res = 2) := HL.out h8
    clear HC HL HS HK HF
    go_enter Tryz.func22, Tryz.ntmps22
    go_wp2_with fail
    go_ret
    exact ⟨by rw [HX.out]; rfl, Below.refl _ _⟩
  · have hI : ¬ (8 : Int) < (l.length : Int) := by omega
    have HX : Hid (res = firstE partI (l.drop 0)) := HS.out h8
    clear HL HS
    go_enter Tryz.func22, Tryz.ntmps22
    go_wp2_with fail
    go_loopw [14] (fun i wr => ∃ k : Nat, k ≤ l.length ∧ i = .int .i64 k ∧ firstE partI (l.drop 0) = firstE partI (l.drop k) ∧ Below w.heap.size w wr) (fun i _ => l.length - (intOf i).toNat)
    case atStart => exact ⟨0, Nat.zero_le _, rfl, rfl, Below.refl _ _⟩
    case round =>
      obtain ⟨k, hk, rfl, hall, hbel⟩ := hrel
      have HA : Hid (firstE partI (l.drop 0) = firstE partI (l.drop k)) := hall
      have HB : Hid (Below w.heap.size w wr) := hbel
      clear hall hbel
      by_cases hlt : k < l.length
      · obtain ⟨g, o, q, d, rfl, hlc, hc0⟩ := HC.out k hlt
        obtain ⟨c1, c2, c3, nv0, hcv⟩ := hc0 wr HB.out
        have HV : Hid (∀ j (hj : j < l[k].2.2.length), ∃ g2 o2, q = some ⟨g2, o2, none⟩ ∧ l[k].2.2.length ≤ d ∧ ∀ w2, Below wr.heap.size wr w2 → w2.cell? ⟨g2, o2 + j, none⟩ = some (.string (Ba l[k].2.2[j]))) := hcv
        have HP : Hid (∀ w2, Below wr.heap.size wr w2 → Calls Tryz.prog 39 #[.string (Ba l[k].1)] w2 fun e w' => e = .returned (.int .i64 (kI l[k].1)) ∧ Below w2.heap.size w2 w') := fun w2 hb => HK.out _ w2 (HB.out.trans (hb.mono HB.out.size))
        have HS : Hid (partI l[k] = 0 → firstE partI (l.drop k) = firstE partI (l.drop (k + 1))) := fun h => firstE_step hlt h
        have HT : Hid (partI l[k] ≠ 0 → firstE partI (l.drop k) = partI l[k]) := fun h => firstE_hit hlt h
        have HFv : Hid (∀ j (hj : j < l[k].2.2.length), l[k].2.2[j].length ≤ maxLen) := fun j hj => (HF.out _ (List.getElem_mem hlt)).2 _ (List.getElem_mem hj)
        clear hc0 hcv
        generalize hx : l[k] = x at c1 c2 c3 HP HV HS HT HFv nv0
        obtain ⟨xk, xd, xv⟩ := x
        dsimp only at c1 c2 c3 HP HV HFv nv0
        unfold maxLen at nv0
        have HE : Hid (partI (xk, xd, xv) = if kI xk ≠ 0 then kI xk else if fitsB xd xv.length = false then 1 else if 8 < xv.length then 2 else firstE vI (xv.drop 0)) := rfl
        clear hx
        have hb2 : Below wr.heap.size wr (wr.alloc (.cells #[.string (Ba xk), .int .i64 xd, .slice q xv.length d] 35)) := (Below.refl _ _).alloc (Nat.le_refl _) _
        have HB2 : Hid (Below wr.heap.size wr (wr.alloc (.cells #[.string (Ba xk), .int .i64 xd, .slice q xv.length d] 35))) := hb2
        clear hb2
        generalize hp : partI (xk, xd, xv) = pr at HS HT HE
        clear hp
        by_cases hx : kI xk = 0
        · have hxb : (kI xk != 0) = false := by simp [hx]
          cases hfit : fitsB xd xv.length with
          | false =>
            have hpr : pr = 1 := by rw [HE.out, if_neg (by simp [hx]), if_pos hfit]
            have HX2 : Hid (res = 1) := by show _ = _; rw [HX.out, HA.out, HT.out (by rw [hpr]; decide), hpr]
            rcases fits_no hfit with h1 | ⟨h1, h4⟩ | ⟨h1, h4, b, hb3, hb0⟩
            · have hd1 : decide (xd < 1) = true := by simpa using h1
              clear h1
              generalize kI xk = kx at *
              generalize Ba xk = sk at *
              clear hfit hpr HE HS HT HV HFv
              go_wp2_with fail
              refine Calls.mono (HP.out _ HB2.out) ?_
              rintro e w1 ⟨rfl, b1⟩
              have HB1 : Hid (Below wr.heap.size wr w1) := HB2.out.trans (b1.mono HB2.out.size)
              obtain ⟨k0, k1, k2⟩ := box3 b1
              clear b1
              go_wp2_with fail
              go_ret
              exact ⟨by rw [HX2.out]; rfl, HB.out.trans (HB1.out.mono HB.out.size)⟩
            · have hd1 : decide (xd < 1) = false := by simp; omega
              have hd4 : decide ((4 : Int) < xd) = true := by simpa using h4
              clear h1 h4
              generalize kI xk = kx at *
              generalize Ba xk = sk at *
              clear hfit hpr HE HS HT HV HFv
              go_wp2_with fail
              refine Calls.mono (HP.out _ HB2.out) ?_
              rintro e w1 ⟨rfl, b1⟩
              have HB1 : Hid (Below wr.heap.size wr w1) := HB2.out.trans (b1.mono HB2.out.size)
              obtain ⟨k0, k1, k2⟩ := box3 b1
              clear b1
              go_wp2_with fail
              go_ret
              exact ⟨by rw [HX2.out]; rfl, HB.out.trans (HB1.out.mono HB.out.size)⟩
            · have hd1 : decide (xd < 1) = false := by simp; omega
              have hd4 : decide ((4 : Int) < xd) = false := by simp; omega
              clear h1 h4
              have hbb : (b == b) = true := by simp
              generalize kI xk = kx at *
              generalize Ba xk = sk at *
              clear hfit hpr HE HS HT HV HFv
              go_wp2_with fail
              refine Calls.mono (HP.out _ HB2.out) ?_
              rintro e w1 ⟨rfl, b1⟩
              have HB1 : Hid (Below wr.heap.size wr w1) := HB2.out.trans (b1.mono HB2.out.size)
              obtain ⟨k0, k1, k2⟩ := box3 b1
              clear b1
              go_wp2_with fail
              go_ret
              exact ⟨by rw [HX2.out]; rfl, HB.out.trans (HB1.out.mono HB.out.size)⟩
          | true =>
            obtain ⟨h1, h4, b, hb3, hb0⟩ := fits_yes hfit
            have hd1 : decide (xd < 1) = false := by simp; omega
            have hd4 : decide ((4 : Int) < xd) = false := by simp; omega
            have hbb : (b == !b) = false := by cases b <;> rfl
            clear h1 h4
            by_cases h3 : 8 < xv.length
            · have hpr : pr = 2 := by rw [HE.out, if_neg (by simp [hx]), if_neg (by simp [hfit]), if_pos h3]
              have HX2 : Hid (res = 2) := by show _ = _; rw [HX.out, HA.out, HT.out (by rw [hpr]; decide), hpr]
              have h3I : (8 : Int) < (xv.length : Int) := by omega
              clear h3
              generalize kI xk = kx at *
              generalize Ba xk = sk at *
              clear hfit hpr HE HS HT HV HFv
              go_wp2_with fail
              refine Calls.mono (HP.out _ HB2.out) ?_
              rintro e w1 ⟨rfl, b1⟩
              have HB1 : Hid (Below wr.heap.size wr w1) := HB2.out.trans (b1.mono HB2.out.size)
              obtain ⟨k0, k1, k2⟩ := box3 b1
              clear b1
              go_wp2_with fail
              go_ret
              exact ⟨by rw [HX2.out]; rfl, HB.out.trans (HB1.out.mono HB.out.size)⟩
            · have hpr : pr = firstE vI (xv.drop 0) := by rw [HE.out, if_neg (by simp [hx]), if_neg (by simp [hfit]), if_neg h3]
              have h3I : ¬ (8 : Int) < (xv.length : Int) := by omega
              have HPr : Hid (pr = firstE vI (xv.drop 0)) := hpr
              clear h3
              generalize kI xk = kx at *
              generalize Ba xk = sk at *
              clear hfit hpr HE
              go_wp2_with fail
              refine Calls.mono (HP.out _ HB2.out) ?_
              rintro e w1 ⟨rfl, b1⟩
              have HB1 : Hid (Below wr.heap.size wr w1) := HB2.out.trans (b1.mono HB2.out.size)
              obtain ⟨k0, k1, k2⟩ := box3 b1
              clear b1
              go_wp2_with fail
              have HB3 : Hid (Below w.heap.size w w1) := HB.out.trans (HB1.out.mono HB.out.size)
              have HV1 : Hid (∀ j (hj : j < xv.length), ∃ g2 o2, q = some ⟨g2, o2, none⟩ ∧ xv.length ≤ d ∧ w1.cell? ⟨g2, o2 + j, none⟩ = some (.string (Ba xv[j]))) := fun j hj => by
                obtain ⟨g2, o2, e1, e2, e3⟩ := HV.out j hj
                exact ⟨g2, o2, e1, e2, e3 w1 HB1.out⟩
              clear k0 k1 k2 HV
              go_loop [49] (fun i => ∃ j : Nat, j ≤ xv.length ∧ i = .int .i64 j ∧ firstE vI (xv.drop 0) = firstE vI (xv.drop j)) (fun i => xv.length - (intOf i).toNat)
              case atStart => exact ⟨0, Nat.zero_le _, rfl, rfl⟩
              case round =>
                obtain ⟨j, hj, rfl, hall⟩ := hrel
                have HA2 : Hid (firstE vI (xv.drop 0) = firstE vI (xv.drop j)) := hall
                clear hall
                by_cases hlj : j < xv.length
                · obtain ⟨g2, o2, rfl, hld, hc⟩ := HV1.out j hlj
                  have hz := HFv.out j hlj
                  have HS2 : Hid (vI xv[j] = 0 → firstE vI (xv.drop j) = firstE vI (xv.drop (j + 1))) := fun h => firstE_step hlj h
                  have HT2 : Hid (vI xv[j] ≠ 0 → firstE vI (xv.drop j) = vI xv[j]) := fun h => firstE_hit hlj h
                  generalize xv[j] = y at hc hz HS2 HT2
                  by_cases hy : vI y = 0
                  · have hyb : (vI y != 0) = false := by simp [hy]
                    go_wp2_with (go_at_call 40; refine (vR_any y _ hz).mono ?_; rintro e w' ⟨rfl, rfl⟩)
                    go_round
                    case rel => exact ⟨j + 1, by omega, by go_num, HA2.out.trans (HS2.out hy)⟩
                    case measure => simp [intOf]; omega
                  · have hyb : (vI y != 0) = true := by simpa using hy
                    have HX2 : Hid (res = vI y) := by
                      show _ = _
                      have e1 : pr = vI y := by rw [HPr.out, HA2.out, HT2.out hy]
                      rw [HX.out, HA.out, HT.out (by rw [e1]; exact hy), e1]
                    go_wp2_with (go_at_call 40; refine (vR_any y _ hz).mono ?_; rintro e w' ⟨rfl, rfl⟩)
                    go_ret
                    exact ⟨by rw [HX2.out]; rfl, HB3.out⟩
                · have HZ : Hid (firstE partI (l.drop 0) = firstE partI (l.drop (k + 1))) := by
                    show _ = _
                    rw [HA.out, HS.out (by rw [HPr.out, HA2.out, firstE_end (by omega)])]
                  go_wp2_with fail
                  go_roundw
                  case rel => exact ⟨k + 1, by omega, by go_num, HZ.out, HB3.out⟩
                  case measure => simp [intOf]; omega
        · have hxb : (kI xk != 0) = true := by simpa using hx
          have hpr : pr = kI xk := by rw [HE.out, if_pos hx]
          have HX2 : Hid (res = kI xk) := by show _ = _; rw [HX.out, HA.out, HT.out (by rw [hpr]; exact hx), hpr]
          clear hx hpr HE HS HT HV HFv
          generalize kI xk = kx at *
          generalize Ba xk = sk at *
          go_wp2_with fail
          refine Calls.mono (HP.out _ HB2.out) ?_
          rintro e w1 ⟨rfl, b1⟩
          have HB1 : Hid (Below wr.heap.size wr w1) := HB2.out.trans (b1.mono HB2.out.size)
          obtain ⟨k0, k1, k2⟩ := box3 b1
          clear b1
          go_wp2_with fail
          go_ret
          exact ⟨by rw [HX2.out]; rfl, HB.out.trans (HB1.out.mono HB.out.size)⟩
      · have HX2 : Hid (res = 0) := by show _ = _; rw [HX.out, HA.out, firstE_end (by omega)]
        go_wp2_with fail
        go_ret
        exact ⟨by rw [HX2.out]; rfl, HB.out⟩
end Go.Proofs.YtgaopmdpcjcooaaGreatDoor
