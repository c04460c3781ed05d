/- Contracts over this translation of the document's TokenUser, Has. -/
import Derived.Test.YtnjjlnhchfoigaaGrRfName
import Derived.Test.YtnjjlnhchfoigaaGrUser
import Derived.Test.YtnjjlnhchfoigaaGrHas
namespace Go.Proofs.Ytnjjlnhchfoigaa
open Go.RowKit
set_option linter.unusedVariables false
set_option linter.unusedSimpArgs false
theorem nm_bad {s : Bs} (h : checkI (Ba s) ≠ 0) : nmI s = checkI (Ba s) := by rw [nmI, if_pos h]
theorem nm_long {s : Bs} (h : checkI (Ba s) = 0) (g : 20 < s.length) : nmI s = 2 := by rw [nmI, if_neg (by simp [h]), if_pos g]
theorem nm_good {s : Bs} (h : checkI (Ba s) = 0) (g : ¬ 20 < s.length) : nmI s = 0 := by rw [nmI, if_neg (by simp [h]), if_neg g]
set_option maxRecDepth 100000 in
set_option maxHeartbeats 4000000 in
theorem rfuser_any (n : Bs) (v : Value) (gs : List Bs) (w : World) (hn : n.length ≤ maxLen) (hv : Strs w v gs) (hg : ∀ g ∈ gs, g.length ≤ maxLen) :
    Calls Try.prog 36 #[.agg #[.string (Ba n), v]] w fun e w' => e = .returned (.int .i64 (userI n gs)) ∧ Below w.heap.size w w' := by
  have HN : Hid (∀ w, Calls Try.prog 27 #[.string (Ba n)] w fun e w' => e = .returned (.int .i64 (checkI (Ba n))) ∧ w' = w) := fun w => nameR_any (Ba n) w (by rw [ba_size]; exact hn)
  obtain ⟨p, c, rfl, hln, hcell⟩ := hv.open
  have HC : Hid (∀ k (hk : k < gs.length), ∃ g o, p = some ⟨g, o, none⟩ ∧ gs.length ≤ c ∧ ∀ w1, Below w.heap.size w w1 → w1.cell? ⟨g, o + k, none⟩ = some (.string (Ba gs[k]))) := hcell
  have HT : Hid (∀ k (hk : k < gs.length) w1, Below w.heap.size w w1 → Calls Try.prog 41 #[.slice p k c, .string (Ba gs[k])] w1 fun e w' => e = .returned (.bool (decide (gs[k] ∈ gs.take k))) ∧ w' = w1) := fun k hk w1 hb =>
    hasL_any _ _ _ w1 ((hv.below hb).take (by omega))
  have HG : Hid (∀ k (hk : k < gs.length) w, Calls Try.prog 27 #[.string (Ba gs[k])] w fun e w' => e = .returned (.int .i64 (checkI (Ba gs[k]))) ∧ w' = w) := fun k hk w => nameR_any _ w (by rw [ba_size]; exact hg _ (List.getElem_mem hk))
  have HGl : Hid (∀ k (hk : k < gs.length), gs[k].length ≤ maxLen) := fun k hk => hg _ (List.getElem_mem hk)
  have HE : Hid (userI n gs = if nmI n ≠ 0 then nmI n else if 6 < gs.length then 2 else grpI (gs.take 0) (gs.drop 0)) := rfl
  have hB : Below w.heap.size w (w.alloc (.cells #[.string (Ba n), .slice p gs.length c] 34)) := (Below.refl _ _).alloc (Nat.le_refl _) _
  have HB : Hid (Below w.heap.size w (w.alloc (.cells #[.string (Ba n), .slice p gs.length c] 34))) := hB
  have hsz : (Ba n).size = n.length := ba_size n
  clear hB hcell hv hg
  generalize userI n gs = res at *
  unfold maxLen at hn hln
  by_cases h1 : checkI (Ba n) = 0
  · have hn1 : (checkI (Ba n) != 0) = false := by simp [h1]
    by_cases h20 : 20 < n.length
    · have HX : Hid (res = 2) := by
        have e := nm_long h1 h20
        show _ = _
        rw [HE.out, if_pos (by rw [e]; decide), e]
      have hI : (20 : Int) < (n.length : Int) := by omega
      clear HE
      generalize checkI (Ba n) = c1 at *
      generalize Ba n = yn at *
      go_enter Try.func36, Try.ntmps36
      go_wp2_with fail
      refine Calls.mono (HN.out _) ?_
      rintro e w1 ⟨rfl, rfl⟩
      go_wp2_with fail
      go_ret
      exact ⟨by rw [HX.out]; rfl, HB.out⟩
    · have e := nm_good h1 h20
      have h20I : ¬ (20 : Int) < (n.length : Int) := by omega
      by_cases h6 : 6 < gs.length
      · have HX : Hid (res = 2) := by show _ = _; rw [HE.out, if_neg (by simp [e]), if_pos h6]
        have hI : (6 : Int) < (gs.length : Int) := by omega
        clear HE e
        generalize checkI (Ba n) = c1 at *
        generalize Ba n = yn at *
        go_enter Try.func36, Try.ntmps36
        go_wp2_with fail
        refine Calls.mono (HN.out _) ?_
        rintro e w1 ⟨rfl, rfl⟩
        go_wp2_with fail
        go_ret
        exact ⟨by rw [HX.out]; rfl, HB.out⟩
      · have HX : Hid (res = grpI (gs.take 0) (gs.drop 0)) := by show _ = _; rw [HE.out, if_neg (by simp [e]), if_neg h6]
        have hI : ¬ (6 : Int) < (gs.length : Int) := by omega
        clear HE e
        generalize checkI (Ba n) = c1 at *
        generalize Ba n = yn at *
        go_enter Try.func36, Try.ntmps36
        go_wp2_with fail
        refine Calls.mono (HN.out _) ?_
        rintro e w1 ⟨rfl, rfl⟩
        go_wp2_with fail
        go_loopw [26] (fun i wr => ∃ k : Nat, k ≤ gs.length ∧ i = .int .i64 k ∧ res = grpI (gs.take k) (gs.drop k) ∧ wr = w.alloc (.cells #[.string yn, .slice p gs.length c] 34)) (fun i _ => gs.length - (intOf i).toNat)
        case atStart => exact ⟨0, Nat.zero_le _, rfl, HX.out, rfl⟩
        case round =>
          obtain ⟨k, hk, rfl, hres, rfl⟩ := hrel
          have HR : Hid (res = grpI (gs.take k) (gs.drop k)) := hres
          clear hres
          by_cases hlt : k < gs.length
          · obtain ⟨g, o, rfl, hlc, hc⟩ := HC.out k hlt
            have hc1 := hc _ HB.out
            have HCt := HT.out k hlt _ HB.out
            have HCt' : Hid (_) := HCt
            have HGk : Hid (∀ w, Calls Try.prog 27 #[.string (Ba gs[k])] w fun e w' => e = .returned (.int .i64 (checkI (Ba gs[k]))) ∧ w' = w) := HG.out k hlt
            have hgl := HGl.out k hlt
            have hgs : (Ba gs[k]).size = gs[k].length := ba_size _
            have HN1 : Hid (nmI gs[k] ≠ 0 → res = nmI gs[k]) := fun h => by show _ = _; rw [HR.out, grp_name hlt h]
            have HN2 : Hid (nmI gs[k] = 0 → gs[k] ∈ gs.take k → res = 5) := fun h g => by show _ = _; rw [HR.out, grp_twice hlt h g]
            have HN3 : Hid (nmI gs[k] = 0 → gs[k] ∉ gs.take k → res = grpI (gs.take (k + 1)) (gs.drop (k + 1))) := fun h g => by show _ = _; rw [HR.out, grp_step hlt h g]
            unfold maxLen at hgl
            clear hc HCt
            by_cases hz : checkI (Ba gs[k]) = 0
            · have hz1 : (checkI (Ba gs[k]) != 0) = false := by simp [hz]
              by_cases hl20 : 20 < gs[k].length
              · have ez := nm_long hz hl20
                have HX2 : Hid (res = 2) := by have := HN1.out (by rw [ez]; decide); rw [ez] at this; exact this
                have hlI : (20 : Int) < (gs[k].length : Int) := by omega
                clear HN1 HN2 HN3 HCt' ez
                generalize checkI (Ba gs[k]) = d1 at *
                generalize Ba gs[k] = y at *
                go_wp2_with fail
                refine Calls.mono (HGk.out _) ?_
                rintro e w1 ⟨rfl, rfl⟩
                go_wp2_with fail
                go_ret
                exact ⟨by rw [HX2.out]; rfl, HB.out⟩
              · have ez := nm_good hz hl20
                have hlI : ¬ (20 : Int) < (gs[k].length : Int) := by omega
                by_cases hm : gs[k] ∈ gs.take k
                · have HX2 : Hid (res = 5) := HN2.out ez hm
                  have hd : decide (gs[k] ∈ gs.take k) = true := decide_eq_true hm
                  rw [hd] at HCt'
                  clear hm hd HN1 HN2 HN3 ez
                  generalize checkI (Ba gs[k]) = d1 at *
                  generalize Ba gs[k] = y at *
                  go_wp2_with fail
                  refine Calls.mono (HGk.out _) ?_
                  rintro e w1 ⟨rfl, rfl⟩
                  go_wp2_with fail
                  refine Calls.mono HCt'.out ?_
                  rintro e w1 ⟨rfl, rfl⟩
                  go_wp2_with fail
                  go_ret
                  exact ⟨by rw [HX2.out]; rfl, HB.out⟩
                · have HX2 : Hid (res = grpI (gs.take (k + 1)) (gs.drop (k + 1))) := HN3.out ez hm
                  have hd : decide (gs[k] ∈ gs.take k) = false := decide_eq_false hm
                  rw [hd] at HCt'
                  clear hm hd HN1 HN2 HN3 ez
                  generalize checkI (Ba gs[k]) = d1 at *
                  generalize Ba gs[k] = y at *
                  go_wp2_with fail
                  refine Calls.mono (HGk.out _) ?_
                  rintro e w1 ⟨rfl, rfl⟩
                  go_wp2_with fail
                  refine Calls.mono HCt'.out ?_
                  rintro e w1 ⟨rfl, rfl⟩
                  go_wp2_with fail
                  go_roundw
                  case rel => exact ⟨k + 1, by omega, by go_num, HX2.out, by trivial⟩
                  case measure => simp [intOf]; omega
            · have hz1 : (checkI (Ba gs[k]) != 0) = true := by simp [hz]
              have HX2 : Hid (res = checkI (Ba gs[k])) := by have := HN1.out (by rw [nm_bad hz]; exact hz); rw [nm_bad hz] at this; exact this
              clear HN1 HN2 HN3 HCt'
              generalize checkI (Ba gs[k]) = d1 at *
              generalize Ba gs[k] = y at *
              go_wp2_with fail
              refine Calls.mono (HGk.out _) ?_
              rintro e w1 ⟨rfl, rfl⟩
              go_wp2_with fail
              go_ret
              exact ⟨by rw [HX2.out]; rfl, HB.out⟩
          · have HX2 : Hid (res = 0) := by show _ = _; rw [HR.out, grp_end (by omega)]
            have hkn : ¬ ((k : Int) < (gs.length : Int)) := by omega
            go_wp2_with fail
            go_ret
            exact ⟨by rw [HX2.out]; rfl, HB.out⟩
  · have hn1 : (checkI (Ba n) != 0) = true := by simp [h1]
    have HX : Hid (res = checkI (Ba n)) := by show _ = _; rw [HE.out, if_pos (by rw [nm_bad h1]; exact h1), nm_bad h1]
    clear HE
    generalize checkI (Ba n) = c1 at *
    go_enter Try.func36, Try.ntmps36
    go_wp2_with fail
    refine Calls.mono (HN.out _) ?_
    rintro e w1 ⟨rfl, rfl⟩
    go_wp2_with fail
    go_ret
    exact ⟨by rw [HX.out]; rfl, HB.out⟩
end Go.Proofs.Ytnjjlnhchfoigaa
