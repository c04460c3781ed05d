/- Contract over this translation: token.CheckUser. -/
import Derived.Test.YtnjjlnhchfoigabDoorGrMem
namespace Go.Proofs.YtnjjlnhchfoigabDoor
open Go.RowKit
set_option linter.unusedVariables false
set_option linter.unusedSimpArgs false
set_option maxRecDepth 100000 in
set_option maxHeartbeats 4000000 in
theorem user_any (n : Bs) (v : Value) (gs : List Bs) (w : World) (hn : n.length ≤ maxLen) (hv : Strs w v gs) (hg : ∀ g ∈ gs, g.length ≤ maxLen) :
    Calls Tryd.prog 52 #[.agg #[.string (Ba n), v]] w fun e w' => e = .returned (.int .i64 (userI n gs)) ∧ Below w.heap.size w w' := by
  have HN : Hid (∀ w, Calls Tryd.prog 66 #[.string (Ba n)] w fun e w' => e = .returned (.int .i64 (nmI n)) ∧ w' = w) := fun w => nm_any n w hn
  obtain ⟨p, c, rfl, hln, hcell⟩ := hv.open
  have HC : Hid (∀ k (hk : k < gs.length), ∃ g o, p = some ⟨g, o, none⟩ ∧ gs.length ≤ c ∧ ∀ w1, Below w.heap.size w w1 → w1.cell? ⟨g, o + k, none⟩ = some (.string (Ba gs[k]))) := hcell
  have HT : Hid (∀ k (hk : k < gs.length) w1, Below w.heap.size w w1 → Calls Tryd.prog 54 #[.slice p k c, .string (Ba gs[k])] w1 fun e w' => e = .returned (.bool (decide (gs[k] ∈ gs.take k))) ∧ w' = w1) := fun k hk w1 hb =>
    contains_of _ _ _ w1 ((hv.below hb).take (by omega))
  have HG : Hid (∀ k (hk : k < gs.length) w, Calls Tryd.prog 66 #[.string (Ba gs[k])] w fun e w' => e = .returned (.int .i64 (nmI gs[k])) ∧ w' = w) := fun k hk w => nm_any _ w (hg _ (List.getElem_mem hk))
  have HE : Hid (userI n gs = if nmI n ≠ 0 then nmI n else if 6 < gs.length then 2 else grpI (gs.take 0) (gs.drop 0)) := rfl
  have hB : Below w.heap.size w (w.alloc (.cells #[.string (Ba n), .slice p gs.length c] 28)) := (Below.refl _ _).alloc (Nat.le_refl _) _
  have HB : Hid (Below w.heap.size w (w.alloc (.cells #[.string (Ba n), .slice p gs.length c] 28))) := hB
  clear hB hcell hv hg
  generalize userI n gs = res at *
  unfold maxLen at hn hln
  by_cases h1 : nmI n = 0
  · have hn1 : (nmI n != 0) = false := by simp [h1]
    by_cases h6 : 6 < gs.length
    · have HX : Hid (res = 2) := by show _ = _; rw [HE.out, if_neg (by simp [h1]), if_pos h6]
      have hI : (6 : Int) < (gs.length : Int) := by omega
      clear HE
      generalize nmI n = c1 at *
      go_enter Tryd.func52, Tryd.ntmps52
      go_wp2_with fail
      refine Calls.mono (HN.out _) ?_
      rintro e w1 ⟨rfl, rfl⟩
      go_wp2_with fail
      go_ret
      exact ⟨by rw [HX.out]; rfl, HB.out⟩
    · have HX : Hid (res = grpI (gs.take 0) (gs.drop 0)) := by show _ = _; rw [HE.out, if_neg (by simp [h1]), if_neg h6]
      have hI : ¬ (6 : Int) < (gs.length : Int) := by omega
      clear HE
      generalize nmI n = c1 at *
      go_enter Tryd.func52, Tryd.ntmps52
      go_wp2_with fail
      refine Calls.mono (HN.out _) ?_
      rintro e w1 ⟨rfl, rfl⟩
      go_wp2_with fail
      go_loopw [20] (fun i wr => ∃ k : Nat, k ≤ gs.length ∧ i = .int .i64 k ∧ res = grpI (gs.take k) (gs.drop k) ∧ wr = w.alloc (.cells #[.string (Ba n), .slice p gs.length c] 28)) (fun i _ => gs.length - (intOf i).toNat)
      case atStart => exact ⟨0, Nat.zero_le _, rfl, HX.out, rfl⟩
      case round =>
        obtain ⟨k, hk, rfl, hres, rfl⟩ := hrel
        have HR : Hid (res = grpI (gs.take k) (gs.drop k)) := hres
        clear hres
        by_cases hlt : k < gs.length
        · obtain ⟨g, o, rfl, hlc, hc⟩ := HC.out k hlt
          have hc1 := hc _ HB.out
          have HCt := HT.out k hlt _ HB.out
          have HCt' : Hid (_) := HCt
          have HGk : Hid (∀ w, Calls Tryd.prog 66 #[.string (Ba gs[k])] w fun e w' => e = .returned (.int .i64 (nmI gs[k])) ∧ w' = w) := HG.out k hlt
          have HN1 : Hid (nmI gs[k] ≠ 0 → res = nmI gs[k]) := fun h => by show _ = _; rw [HR.out, grp_name hlt h]
          have HN2 : Hid (nmI gs[k] = 0 → gs[k] ∈ gs.take k → res = 5) := fun h g => by show _ = _; rw [HR.out, grp_twice hlt h g]
          have HN3 : Hid (nmI gs[k] = 0 → gs[k] ∉ gs.take k → res = grpI (gs.take (k + 1)) (gs.drop (k + 1))) := fun h g => by show _ = _; rw [HR.out, grp_step hlt h g]
          clear hc HCt
          by_cases hz : nmI gs[k] = 0
          · have hz1 : (nmI gs[k] != 0) = false := by simp [hz]
            by_cases hm : gs[k] ∈ gs.take k
            · have HX2 : Hid (res = 5) := HN2.out hz hm
              have hd : decide (gs[k] ∈ gs.take k) = true := decide_eq_true hm
              rw [hd] at HCt'
              clear hm hd HN1 HN2 HN3
              generalize nmI gs[k] = d1 at *
              generalize Ba gs[k] = y at *
              go_wp2_with fail
              refine Calls.mono (HGk.out _) ?_
              rintro e w1 ⟨rfl, rfl⟩
              go_wp2_with fail
              refine Calls.mono HCt'.out ?_
              rintro e w1 ⟨rfl, rfl⟩
              go_wp2_with fail
              go_ret
              exact ⟨by rw [HX2.out]; rfl, HB.out⟩
            · have HX2 : Hid (res = grpI (gs.take (k + 1)) (gs.drop (k + 1))) := HN3.out hz hm
              have hd : decide (gs[k] ∈ gs.take k) = false := decide_eq_false hm
              rw [hd] at HCt'
              clear hm hd HN1 HN2 HN3
              generalize nmI gs[k] = d1 at *
              generalize Ba gs[k] = y at *
              go_wp2_with fail
              refine Calls.mono (HGk.out _) ?_
              rintro e w1 ⟨rfl, rfl⟩
              go_wp2_with fail
              refine Calls.mono HCt'.out ?_
              rintro e w1 ⟨rfl, rfl⟩
              go_wp2_with fail
              go_roundw
              case rel => exact ⟨k + 1, by omega, by go_num, HX2.out, by trivial⟩
              case measure => simp [intOf]; omega
          · have hz1 : (nmI gs[k] != 0) = true := by simp [hz]
            have HX2 : Hid (res = nmI gs[k]) := HN1.out hz
            clear HN1 HN2 HN3 HCt'
            generalize nmI gs[k] = d1 at *
            generalize Ba gs[k] = y at *
            go_wp2_with fail
            refine Calls.mono (HGk.out _) ?_
            rintro e w1 ⟨rfl, rfl⟩
            go_wp2_with fail
            go_ret
            exact ⟨by rw [HX2.out]; rfl, HB.out⟩
        · have HX2 : Hid (res = 0) := by show _ = _; rw [HR.out, grp_end (by omega)]
          have hkn : ¬ ((k : Int) < (gs.length : Int)) := by omega
          go_wp2_with fail
          go_ret
          exact ⟨by rw [HX2.out]; rfl, HB.out⟩
  · have hn1 : (nmI n != 0) = true := by simp [h1]
    have HX : Hid (res = nmI n) := by show _ = _; rw [HE.out, if_pos h1]
    clear HE
    generalize nmI n = c1 at *
    go_enter Tryd.func52, Tryd.ntmps52
    go_wp2_with fail
    refine Calls.mono (HN.out _) ?_
    rintro e w1 ⟨rfl, rfl⟩
    go_wp2_with fail
    go_ret
    exact ⟨by rw [HX.out]; rfl, HB.out⟩
end Go.Proofs.YtnjjlnhchfoigabDoor
