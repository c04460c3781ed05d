/- Contracts over this translation: grants.checkNames, checkWords, checkIfAny, checkPlace. -/
import Derived.Test.YtnjjlnhchfoigabDoorGrMem
namespace Go.Proofs.YtnjjlnhchfoigabDoor
open Go.RowKit
set_option linter.unusedVariables false
set_option linter.unusedSimpArgs false
theorem ba_is (a b : Bs) : ((Ba a).toList == b) = decide (a = b) := by
  have h := ba_beq a b
  rw [ba_list b] at h
  exact h
theorem cI_any (s : Bs) (w : World) (hs : s.length ≤ maxLen) : Calls Tryd.prog 53 #[.string (Ba s)] w fun e w' => e = .returned (.int .i64 (cI s)) ∧ w' = w :=
  check_any (Ba s) w (by rw [ba_size]; exact hs)
set_option maxHeartbeats 2000000 in
theorem names_any (v : Value) (vs : List Bs) (w : World) (hv : Strs w v vs) (hf : FitS vs) :
    Calls Tryd.prog 43 #[v] w fun e w' => e = .returned (.int .i64 (firstE cI vs)) ∧ w' = w := by
  obtain ⟨p, c, rfl, hn, hcell⟩ := hv.open
  have HC : Hid (∀ k (hk : k < vs.length), ∃ g o, p = some ⟨g, o, none⟩ ∧ vs.length ≤ c ∧ w.cell? ⟨g, o + k, none⟩ = some (.string (Ba vs[k]))) := fun k hk => by
    obtain ⟨g, o, h1, h2, h3⟩ := hcell k hk
    exact ⟨g, o, h1, h2, h3 w (Below.refl _ _)⟩
  have HF : Hid (∀ k (hk : k < vs.length), vs[k].length ≤ maxLen) := fun k hk => hf _ (List.getElem_mem hk)
  have HX : Hid (firstE cI vs = firstE cI (vs.drop 0)) := rfl
  clear hcell hf hv
  generalize firstE cI vs = res at *
  unfold maxLen at hn
  go_enter Tryd.func43, Tryd.ntmps43
  go_wp2_with fail
  go_loop [8] (fun i => ∃ k : Nat, k ≤ vs.length ∧ i = .int .i64 k ∧ firstE cI (vs.drop 0) = firstE cI (vs.drop k)) (fun i => vs.length - (intOf i).toNat)
  case atStart => exact ⟨0, Nat.zero_le _, rfl, rfl⟩
  case round =>
    obtain ⟨k, hk, rfl, hall⟩ := hrel
    have HA : Hid (firstE cI (vs.drop 0) = firstE cI (vs.drop k)) := hall
    clear hall
    by_cases hlt : k < vs.length
    · obtain ⟨g, o, rfl, hlc, hc⟩ := HC.out k hlt
      have hz := HF.out k hlt
      have HS : Hid (cI vs[k] = 0 → firstE cI (vs.drop k) = firstE cI (vs.drop (k + 1))) := fun h => firstE_step hlt h
      have HT : Hid (cI vs[k] ≠ 0 → firstE cI (vs.drop k) = cI vs[k]) := fun h => firstE_hit hlt h
      generalize vs[k] = x at hc hz HS HT
      by_cases hx : cI x = 0
      · have hxb : (cI x != 0) = false := by simp [hx]
        go_wp2_with (go_at_call 53; refine (cI_any x _ hz).mono ?_; rintro e w' ⟨rfl, rfl⟩)
        go_round
        case rel => exact ⟨k + 1, by omega, by go_num, HA.out.trans (HS.out hx)⟩
        case measure => simp [intOf]; omega
      · have hxb : (cI x != 0) = true := by simpa using hx
        have HX2 : Hid (res = cI x) := by show _ = _; rw [HX.out, HA.out, HT.out hx]
        go_wp2_with (go_at_call 53; refine (cI_any x _ hz).mono ?_; rintro e w' ⟨rfl, rfl⟩)
        go_ret
        exact ⟨by rw [HX2.out]; rfl, rfl⟩
    · have HX2 : Hid (res = 0) := by show _ = _; rw [HX.out, HA.out, firstE_end (by omega)]
      go_wp2_with fail
      go_ret
      exact ⟨by rw [HX2.out]; rfl, rfl⟩
theorem word_star {s : Bs} (h : s = [42]) : wordI s = 0 := if_pos h
theorem word_else {s : Bs} (h : ¬ s = [42]) : wordI s = cI s := if_neg h
set_option maxHeartbeats 2000000 in
theorem words_any (v : Value) (vs : List Bs) (w : World) (hv : Strs w v vs) (hf : FitS vs) :
    Calls Tryd.prog 55 #[v] w fun e w' => e = .returned (.int .i64 (firstE wordI vs)) ∧ w' = w := by
  obtain ⟨p, c, rfl, hn, hcell⟩ := hv.open
  have HC : Hid (∀ k (hk : k < vs.length), ∃ g o, p = some ⟨g, o, none⟩ ∧ vs.length ≤ c ∧ w.cell? ⟨g, o + k, none⟩ = some (.string (Ba vs[k]))) := fun k hk => by
    obtain ⟨g, o, h1, h2, h3⟩ := hcell k hk
    exact ⟨g, o, h1, h2, h3 w (Below.refl _ _)⟩
  have HF : Hid (∀ k (hk : k < vs.length), vs[k].length ≤ maxLen) := fun k hk => hf _ (List.getElem_mem hk)
  have HX : Hid (firstE wordI vs = firstE wordI (vs.drop 0)) := rfl
  clear hcell hf hv
  generalize firstE wordI vs = res at *
  unfold maxLen at hn
  go_enter Tryd.func55, Tryd.ntmps55
  go_wp2_with fail
  go_loop [8] (fun i => ∃ k : Nat, k ≤ vs.length ∧ i = .int .i64 k ∧ firstE wordI (vs.drop 0) = firstE wordI (vs.drop k)) (fun i => vs.length - (intOf i).toNat)
  case atStart => exact ⟨0, Nat.zero_le _, rfl, rfl⟩
  case round =>
    obtain ⟨k, hk, rfl, hall⟩ := hrel
    have HA : Hid (firstE wordI (vs.drop 0) = firstE wordI (vs.drop k)) := hall
    clear hall
    by_cases hlt : k < vs.length
    · obtain ⟨g, o, rfl, hlc, hc⟩ := HC.out k hlt
      have hz := HF.out k hlt
      have HS : Hid (wordI vs[k] = 0 → firstE wordI (vs.drop k) = firstE wordI (vs.drop (k + 1))) := fun h => firstE_step hlt h
      have HT : Hid (wordI vs[k] ≠ 0 → firstE wordI (vs.drop k) = wordI vs[k]) := fun h => firstE_hit hlt h
      generalize vs[k] = x at hc hz HS HT
      have hb : ((Ba x).toList == [42]) = decide (x = [42]) := ba_is x [42]
      by_cases hst : x = [42]
      · have HN : Hid (firstE wordI (vs.drop k) = firstE wordI (vs.drop (k + 1))) := HS.out (word_star hst)
        rw [decide_eq_true hst] at hb
        clear hst HS HT hz
        generalize Ba x = y at *
        go_wp2_with fail
        go_round
        case rel => exact ⟨k + 1, by omega, by go_num, HA.out.trans HN.out⟩
        case measure => simp [intOf]; omega
      · rw [decide_eq_false hst] at hb
        have HW : Hid (wordI x = cI x) := word_else hst
        have HCx : Hid (∀ w, Calls Tryd.prog 53 #[.string (Ba x)] w fun e w' => e = .returned (.int .i64 (cI x)) ∧ w' = w) := fun w => cI_any x w hz
        clear hz hst
        by_cases hx : cI x = 0
        · have hxb : (cI x != 0) = false := by simp [hx]
          have HN : Hid (firstE wordI (vs.drop k) = firstE wordI (vs.drop (k + 1))) := HS.out (HW.out.trans hx)
          clear HS HT HW
          generalize Ba x = y at *
          generalize cI x = cx at *
          go_wp2_with fail
          refine Calls.mono (HCx.out _) ?_
          rintro e w1 ⟨rfl, rfl⟩
          go_wp2_with fail
          go_round
          case rel => exact ⟨k + 1, by omega, by go_num, HA.out.trans HN.out⟩
          case measure => simp [intOf]; omega
        · have hxb : (cI x != 0) = true := by simpa using hx
          have HX2 : Hid (res = cI x) := by show _ = _; rw [HX.out, HA.out, HT.out (by rw [HW.out]; exact hx), HW.out]
          clear HS HT HW
          generalize Ba x = y at *
          generalize cI x = cx at *
          go_wp2_with fail
          refine Calls.mono (HCx.out _) ?_
          rintro e w1 ⟨rfl, rfl⟩
          go_wp2_with fail
          go_ret
          exact ⟨by rw [HX2.out]; rfl, rfl⟩
    · have HX2 : Hid (res = 0) := by show _ = _; rw [HX.out, HA.out, firstE_end (by omega)]
      go_wp2_with fail
      go_ret
      exact ⟨by rw [HX2.out]; rfl, rfl⟩
theorem if_none {s : Bs} (h : s = []) : ifI s = 0 := if_pos h
theorem if_some {s : Bs} (h : ¬ s = []) : ifI s = cI s := if_neg h
set_option maxHeartbeats 800000 in
theorem if_any (s : Bs) (w : World) (hs : s.length ≤ maxLen) : Calls Tryd.prog 37 #[.string (Ba s)] w fun e w' => e = .returned (.int .i64 (ifI s)) ∧ w' = w := by
  have HCx : Hid (∀ w, Calls Tryd.prog 53 #[.string (Ba s)] w fun e w' => e = .returned (.int .i64 (cI s)) ∧ w' = w) := fun w => cI_any s w hs
  have hb : ((Ba s).toList == []) = decide (s = []) := ba_is s []
  clear hs
  by_cases h : s = []
  · have HX : Hid (ifI s = 0) := if_none h
    rw [decide_eq_true h] at hb
    clear h HCx
    generalize Ba s = y at *
    generalize ifI s = res at *
    go_enter Tryd.func37, Tryd.ntmps37
    go_wp2_with fail
    go_ret
    exact ⟨by rw [HX.out]; rfl, rfl⟩
  · have HX : Hid (ifI s = cI s) := if_some h
    rw [decide_eq_false h] at hb
    clear h
    generalize Ba s = y at *
    generalize ifI s = res at *
    generalize cI s = cs at *
    go_enter Tryd.func37, Tryd.ntmps37
    go_wp2_with fail
    refine Calls.mono (HCx.out _) ?_
    rintro e w1 ⟨rfl, rfl⟩
    go_wp2_with fail
    go_ret
    exact ⟨by rw [HX.out]; rfl, rfl⟩
set_option maxHeartbeats 800000 in
theorem place_any (s n : Bs) (w : World) (hs : s.length ≤ maxLen) (hn : n.length ≤ maxLen) : Calls Tryd.prog 73 #[.string (Ba s), .string (Ba n)] w fun e w' => e = .returned (.int .i64 (placeI s n)) ∧ w' = w := by
  have HI : Hid (∀ w, Calls Tryd.prog 37 #[.string (Ba s)] w fun e w' => e = .returned (.int .i64 (ifI s)) ∧ w' = w) := fun w => if_any s w hs
  have HCx : Hid (∀ w, Calls Tryd.prog 53 #[.string (Ba n)] w fun e w' => e = .returned (.int .i64 (cI n)) ∧ w' = w) := fun w => cI_any n w hn
  have HL : Hid (ifI s ≠ 0 → placeI s n = ifI s) := fun h => orE_l h
  have HR : Hid (ifI s = 0 → placeI s n = cI n) := fun h => orE_r h
  clear hs hn
  generalize Ba s = y at *
  generalize Ba n = z at *
  generalize placeI s n = res at *
  generalize ifI s = a at *
  generalize cI n = b at *
  by_cases h : a = 0
  · have hb : (a != 0) = false := by simp [h]
    have HX : Hid (res = b) := HR.out h
    go_enter Tryd.func73, Tryd.ntmps73
    go_wp2_with fail
    refine Calls.mono (HI.out _) ?_
    rintro e w1 ⟨rfl, rfl⟩
    go_wp2_with fail
    refine Calls.mono (HCx.out _) ?_
    rintro e w1 ⟨rfl, rfl⟩
    go_wp2_with fail
    go_ret
    exact ⟨by rw [HX.out]; rfl, rfl⟩
  · have hb : (a != 0) = true := by simpa using h
    have HX : Hid (res = a) := HL.out h
    go_enter Tryd.func73, Tryd.ntmps73
    go_wp2_with fail
    refine Calls.mono (HI.out _) ?_
    rintro e w1 ⟨rfl, rfl⟩
    go_wp2_with fail
    go_ret
    exact ⟨by rw [HX.out]; rfl, rfl⟩
end Go.Proofs.YtnjjlnhchfoigabDoor
