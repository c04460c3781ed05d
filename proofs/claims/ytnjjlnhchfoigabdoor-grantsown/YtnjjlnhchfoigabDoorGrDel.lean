/- Contracts over this translation: slices.IndexFunc, slices.DeleteFunc at texts, with the two functions of grants that are handed to them. -/
import Derived.Test.YtnjjlnhchfoigabDoorGrRowT
namespace Go.Proofs.YtnjjlnhchfoigabDoor
open Go.RowKit Go.Maps
set_option linter.unusedVariables false
set_option linter.unusedSimpArgs false

set_option maxRecDepth 100000 in
set_option maxHeartbeats 4000000 in
theorem idxF_bare (g cap : Nat) (l : List Bs) (d : Nat → Bool) (J : Nat → World → Prop) (mB : Option Nat) (hne : some g ≠ mB) (w : World) (hrow : RowT w g cap l) (hl : l.length ≤ 1048576)
    (HJ : (∀ j (hj : j < l.length) w1, J j w1 → Calls Tryd.prog 62 #[.string (Ba l[j])] w1 fun e w2 => e = .returned (.bool (d j)) ∧ J (j + 1) w2 ∧ w1.grownBy w2 mB)) (h0 : J 0 w) :
    Calls Tryd.prog 70 #[.slice (some ⟨g, 0, none⟩) l.length cap, .func (.func 62) #[] #[]] w fun e w' => ∃ n : Int, e = .returned (.int .i64 n) ∧ RowT w' g cap l ∧
      ((n = -1 ∧ (∀ j, j < l.length → d j = false) ∧ J l.length w') ∨ ∃ i : Nat, n = (i : Int) ∧ i < l.length ∧ d i = true ∧ (∀ j, j < i → d j = false) ∧ J (i + 1) w') := by
  have HC : Hid (∀ j (hj : j < l.length) w1, J j w1 → Calls Tryd.prog 62 #[.string (Ba l[j])] w1 fun e w2 => e = .returned (.bool (d j)) ∧ J (j + 1) w2 ∧ w1.grownBy w2 mB) := HJ
  have HR : Hid (RowT w g cap l) := hrow
  have HJ0 : Hid (J 0 w) := h0
  have HNe : Hid (some g ≠ mB) := hne
  have hlc := hrow.le
  clear HJ hrow h0 hne
  go_enter Tryd.func70, Tryd.ntmps70
  go_wp2_with fail
  go_loopw [8] (fun iv wr => ∃ k : Nat, k ≤ l.length ∧ iv = .int .i64 k ∧ (∀ j, j < k → d j = false) ∧ RowT wr g cap l ∧ J k wr) (fun iv _ => l.length - (intOf iv).toNat)
  case atStart => exact ⟨0, Nat.zero_le _, rfl, (fun j hj => absurd hj (Nat.not_lt_zero _)), HR.out, HJ0.out⟩
  case round =>
    obtain ⟨k, hk, rfl, hall, hrw, hj⟩ := hrel
    have HA : Hid (∀ j, j < k → d j = false) := hall
    have HW : Hid (RowT wr g cap l) := hrw
    have HK : Hid (J k wr) := hj
    clear hall hrw hj
    by_cases hlt : k < l.length
    · have hc0 := HW.out.cell (List.getElem?_eq_getElem hlt)
      have HF := HC.out k hlt wr HK.out
      have HFh : Hid (Calls Tryd.prog 62 #[.string (Ba l[k])] wr fun e w2 => e = .returned (.bool (d k)) ∧ J (k + 1) w2 ∧ wr.grownBy w2 mB) := HF
      have hkI : (k : Int) < (l.length : Int) := by omega
      clear HF
      generalize Ba l[k] = y at *
      generalize hd : d k = b at *
      have HD : Hid (d k = b) := hd
      clear hd
      cases b with
      | true =>
        go_wp2_with fail
        refine Calls.mono HFh.out ?_
        rintro e w2 ⟨rfl, h1, h2⟩
        have HR2 : Hid (RowT w2 g cap l) := HW.out.kept h2 HNe.out
        have HJ2 : Hid (J (k + 1) w2) := h1
        clear h1 h2
        go_wp2_with fail
        go_ret
        exact ⟨k, rfl, HR2.out, Or.inr ⟨k, rfl, hlt, HD.out, HA.out, HJ2.out⟩⟩
      | false =>
        go_wp2_with fail
        refine Calls.mono HFh.out ?_
        rintro e w2 ⟨rfl, h1, h2⟩
        have HR2 : Hid (RowT w2 g cap l) := HW.out.kept h2 HNe.out
        have HJ2 : Hid (J (k + 1) w2) := h1
        clear h1 h2
        go_wp2_with fail
        go_roundw
        case rel => exact ⟨k + 1, by omega, by go_num, (fun j hj => by
          rcases Nat.lt_succ_iff_lt_or_eq.1 hj with h | h
          · exact HA.out j h
          · subst h; exact HD.out), HR2.out, HJ2.out⟩
        case measure => simp [intOf]; omega
    · have hkI : ¬ ((k : Int) < (l.length : Int)) := by omega
      have HE : Hid (k = l.length) := by show _ = _; omega
      go_wp2_with fail
      go_ret
      exact ⟨-1, rfl, HW.out, Or.inl ⟨rfl, (fun j hj => HA.out j (by have := HE.out; omega)), by have := HK.out; rw [HE.out] at this; exact this⟩⟩
set_option maxRecDepth 100000 in
set_option maxHeartbeats 8000000 in
theorem delF_bare (g cap : Nat) (l : List Bs) (d : Nat → Bool) (J : Nat → World → Prop) (mB : Option Nat) (hne : some g ≠ mB) (w : World) (hrow : RowT w g cap l) (hl : l.length ≤ 1048576) (hcap : cap ≤ maxLen)
    (HJ : (∀ j (hj : j < l.length) w1, J j w1 → Calls Tryd.prog 62 #[.string (Ba l[j])] w1 fun e w2 => e = .returned (.bool (d j)) ∧ J (j + 1) w2 ∧ w1.grownBy w2 mB)) (HS : ∀ j w1 w2, J j w1 → w1.grownBy w2 (some g) → J j w2) (h0 : J 0 w) :
    Calls Tryd.prog 57 #[.slice (some ⟨g, 0, none⟩) l.length cap, .func (.func 62) #[] #[]] w fun e w' => e = .returned (.slice (some ⟨g, 0, none⟩) (keptK l d l.length).length cap) ∧ RowT w' g cap (keptK l d l.length) ∧ J l.length w' := by
  have HI : Hid (Calls Tryd.prog 70 #[.slice (some ⟨g, 0, none⟩) l.length cap, .func (.func 62) #[] #[]] w fun e w' => ∃ n : Int, e = .returned (.int .i64 n) ∧ RowT w' g cap l ∧
      ((n = -1 ∧ (∀ j, j < l.length → d j = false) ∧ J l.length w') ∨ ∃ i : Nat, n = (i : Int) ∧ i < l.length ∧ d i = true ∧ (∀ j, j < i → d j = false) ∧ J (i + 1) w')) := idxF_bare g cap l d J mB hne w hrow hl HJ h0
  have HC : Hid (∀ j (hj : j < l.length) w1, J j w1 → Calls Tryd.prog 62 #[.string (Ba l[j])] w1 fun e w2 => e = .returned (.bool (d j)) ∧ J (j + 1) w2 ∧ w1.grownBy w2 mB) := HJ
  have HSt : Hid (∀ j w1 w2, J j w1 → w1.grownBy w2 (some g) → J j w2) := HS
  have HNe : Hid (some g ≠ mB) := hne
  have hlc := hrow.le
  unfold maxLen at hcap
  clear HJ hrow h0 hne HS
  go_enter Tryd.func57, Tryd.ntmps57
  go_wp2_with fail
  refine Calls.mono HI.out ?_
  rintro e w1 ⟨n, rfl, hrow, hcase⟩
  rcases hcase with ⟨rfl, hall, hj⟩ | ⟨i0, rfl, hi0, hd0, hall, hj⟩
  · have HE : Hid (keptK l d l.length = l) := by show _ = _; rw [keptK_all l d l.length (Nat.le_refl _) hall, List.take_of_length_le (Nat.le_refl _)]
    have HR : Hid (RowT w1 g cap l) := hrow
    have HJ1 : Hid (J l.length w1) := hj
    clear hrow hall hj
    go_wp2_with fail
    go_ret
    rw [HE.out]
    exact ⟨rfl, HR.out, HJ1.out⟩
  · have hn1 : ((i0 : Int) == -1) = false := by simp
    have HR : Hid (RowT w1 g cap l) := hrow
    have HJ1 : Hid (J (i0 + 1) w1) := hj
    have HK1 : Hid (keptK l d (i0 + 1) = l.take i0) := by
      show _ = _
      rw [keptK_succ l d hi0, keptK_all l d i0 (by omega) hall, hd0]
      simp
    clear hrow hall hj hd0
    go_wp2_with fail
    go_loopw [5, 6] (fun iv jv wr => ∃ (i j : Nat) (m : List Bs), i < j ∧ j ≤ l.length ∧ iv = .int .i64 i ∧ jv = .int .i64 j ∧ m.length = l.length ∧ m.take i = keptK l d j ∧ m.drop j = l.drop j ∧ RowT wr g cap m ∧ J j wr) (fun _ jv _ => l.length - (intOf jv).toNat)
    case atStart => exact ⟨i0, i0 + 1, l, Nat.lt_succ_self _, hi0, rfl, by go_num, rfl, HK1.out.symm, rfl, HR.out, HJ1.out⟩
    case round =>
      obtain ⟨i, j, m, hij, hjl, rfl, rfl, hml, htk, hdr, hrw, hj⟩ := hrel
      have HW : Hid (RowT wr g cap m) := hrw
      have HK : Hid (J j wr) := hj
      have HT : Hid (m.take i = keptK l d j) := htk
      have HD : Hid (m.drop j = l.drop j) := hdr
      have HM : Hid (m.length = l.length) := hml
      clear hrw hj htk hdr hml HR HJ1 HK1
      by_cases hlt : j < l.length
      · have hmj : m[j]? = some l[j] := by
          have h := congrArg (fun x => x[0]?) HD.out
          simp only [List.getElem?_drop, Nat.add_zero] at h
          rw [h, List.getElem?_eq_getElem hlt]
        have hc0 := HW.out.cell hmj
        have hmi : i < m.length := by have := HM.out; omega
        have hci := HW.out.cell (List.getElem?_eq_getElem hmi)
        have hfi := HW.out.frozen (i := i)
        have hki := HC.out j hlt wr HK.out
        have HFh : Hid (Calls Tryd.prog 62 #[.string (Ba l[j])] wr fun e w2 => e = .returned (.bool (d j)) ∧ J (j + 1) w2 ∧ wr.grownBy w2 mB) := hki
        have hkI : (j : Int) < (l.length : Int) := by omega
        have HKs : Hid (keptK l d (j + 1) = keptK l d j ++ (if d j then [] else [l[j]])) := keptK_succ l d hlt
        have HMi : Hid (i < m.length) := hmi
        clear hki hmj hci hfi hmi
        generalize hs : l[j] = s at *
        have HSs : Hid (l[j] = s) := hs
        clear hs
        generalize hy : Ba s = y at *
        have HY : Hid (Ba s = y) := hy
        clear hy
        generalize hd : d j = b at *
        have HDj : Hid (d j = b) := hd
        clear hd
        cases b with
        | true =>
          go_wp2_with fail
          refine Calls.mono HFh.out ?_
          rintro e w2 ⟨rfl, h1, h2⟩
          have HR2 : Hid (RowT w2 g cap m) := HW.out.kept h2 HNe.out
          have HJ2 : Hid (J (j + 1) w2) := h1
          clear h1 h2
          go_wp2_with fail
          go_roundw
          case rel => exact ⟨i, j + 1, m, by omega, by omega, rfl, by go_num, HM.out, by rw [HKs.out, HT.out]; simp, by rw [← List.drop_drop, ← List.drop_drop, HD.out], HR2.out, HJ2.out⟩
          case measure => simp [intOf]; omega
        | false =>
          go_wp2_with fail
          refine Calls.mono HFh.out ?_
          rintro e w2 ⟨rfl, h1, h2⟩
          have HR2 : Hid (RowT w2 g cap m) := HW.out.kept h2 HNe.out
          have hci := HR2.out.cell (List.getElem?_eq_getElem HMi.out)
          have hfi := HR2.out.frozen (i := i)
          have HJ2 : Hid (J (j + 1) w2) := h1
          have HR3 : Hid (RowT (w2.setCell ⟨g, i, none⟩ (.string y)) g cap (m.set i s)) := by rw [← HY.out]; exact HR2.out.set HMi.out s
          have HJ3 : Hid (J (j + 1) (w2.setCell ⟨g, i, none⟩ (.string y))) := HSt.out _ _ _ h1 grown_set1
          have HT3 : Hid ((m.set i s).take (i + 1) = keptK l d (j + 1)) := by
            show _ = _
            rw [HKs.out, ← HT.out, if_neg (by decide), List.take_succ_eq_append_getElem (by rw [List.length_set]; exact HMi.out), List.take_set_of_le (Nat.le_refl _), List.getElem_set_self]
          have HD3 : Hid ((m.set i s).drop (j + 1) = l.drop (j + 1)) := by
            show _ = _
            rw [List.drop_set_of_lt (by omega), ← List.drop_drop, ← List.drop_drop, HD.out]
          clear h1 h2
          generalize Ba (m[i]'HMi.out) = old at *
          go_wp2_with fail
          go_roundw
          case rel => exact ⟨i + 1, j + 1, m.set i s, by omega, by omega, by go_num, by go_num, by rw [List.length_set]; exact HM.out, HT3.out, HD3.out, HR3.out, HJ3.out⟩
          case measure => simp [intOf]; omega
      · have hjE : j = l.length := by omega
        have hkI : ¬ ((j : Int) < (l.length : Int)) := by omega
        have HIl : Hid (i = (keptK l d l.length).length) := by
          show _ = _
          rw [← hjE, ← HT.out, List.length_take]
          have := HM.out
          omega
        have hcl : ∀ ty, (Builtin.clear_ #[26] ty #[.slice (some ⟨g, i, none⟩) (l.length - i) (cap - i)]).run Tryd.prog wr = .ok (.tuple #[]) (wr.setCells g i (List.replicate (l.length - i) (.string ⟨#[]⟩))) :=
          fun ty => Lib.run_clear_slice wr _ _ ty _ Tryd.underlying26 (fun w => by kernel_rfl) rfl rfl g i _ _ (by omega) (fun t ht => by
            have hlt : i + t < m.length := by have := HM.out; omega
            rw [HW.out.cell (List.getElem?_eq_getElem hlt)]; rfl) (fun t ht => HW.out.frozen)
        have HR3 : Hid (RowT (wr.setCells g i (List.replicate (l.length - i) (.string ⟨#[]⟩))) g cap (keptK l d l.length)) := by
          have h := HW.out.clear (i := i) (by have := HM.out; omega) (List.replicate (l.length - i) (.string ⟨#[]⟩)) (by rw [List.length_replicate]; omega)
          rw [HT.out, hjE] at h
          exact h
        have HJ3 : Hid (J l.length (wr.setCells g i (List.replicate (l.length - i) (.string ⟨#[]⟩)))) := by
          have h := HSt.out _ _ _ HK.out (grown_sets (b := g) (List.replicate (l.length - i) (.string ⟨#[]⟩)) i wr)
          rw [hjE] at h
          exact h
        have hicap : ((cap : Int) == (i : Int)) = false := by simp; omega
        clear hjE
        go_wp2_with fail
        go_ret
        exact ⟨by rw [← HIl.out]; rfl, HR3.out, HJ3.out⟩

set_option maxRecDepth 100000 in
set_option maxHeartbeats 4000000 in
theorem idxF_seen (c1 : Value) (c2 : Value) (g cap : Nat) (l : List Bs) (d : Nat → Bool) (J : Nat → World → Prop) (mB : Option Nat) (hne : some g ≠ mB) (w : World) (hrow : RowT w g cap l) (hl : l.length ≤ 1048576)
    (HJ : (∀ j (hj : j < l.length) w1, J j w1 → Calls Tryd.prog 58 #[.string (Ba l[j]), c1, c2] w1 fun e w2 => e = .returned (.bool (d j)) ∧ J (j + 1) w2 ∧ w1.grownBy w2 mB)) (h0 : J 0 w) :
    Calls Tryd.prog 70 #[.slice (some ⟨g, 0, none⟩) l.length cap, .func (.func 58) #[] #[c1, c2]] w fun e w' => ∃ n : Int, e = .returned (.int .i64 n) ∧ RowT w' g cap l ∧
      ((n = -1 ∧ (∀ j, j < l.length → d j = false) ∧ J l.length w') ∨ ∃ i : Nat, n = (i : Int) ∧ i < l.length ∧ d i = true ∧ (∀ j, j < i → d j = false) ∧ J (i + 1) w') := by
  have HC : Hid (∀ j (hj : j < l.length) w1, J j w1 → Calls Tryd.prog 58 #[.string (Ba l[j]), c1, c2] w1 fun e w2 => e = .returned (.bool (d j)) ∧ J (j + 1) w2 ∧ w1.grownBy w2 mB) := HJ
  have HR : Hid (RowT w g cap l) := hrow
  have HJ0 : Hid (J 0 w) := h0
  have HNe : Hid (some g ≠ mB) := hne
  have hlc := hrow.le
  clear HJ hrow h0 hne
  go_enter Tryd.func70, Tryd.ntmps70
  go_wp2_with fail
  go_loopw [8] (fun iv wr => ∃ k : Nat, k ≤ l.length ∧ iv = .int .i64 k ∧ (∀ j, j < k → d j = false) ∧ RowT wr g cap l ∧ J k wr) (fun iv _ => l.length - (intOf iv).toNat)
  case atStart => exact ⟨0, Nat.zero_le _, rfl, (fun j hj => absurd hj (Nat.not_lt_zero _)), HR.out, HJ0.out⟩
  case round =>
    obtain ⟨k, hk, rfl, hall, hrw, hj⟩ := hrel
    have HA : Hid (∀ j, j < k → d j = false) := hall
    have HW : Hid (RowT wr g cap l) := hrw
    have HK : Hid (J k wr) := hj
    clear hall hrw hj
    by_cases hlt : k < l.length
    · have hc0 := HW.out.cell (List.getElem?_eq_getElem hlt)
      have HF := HC.out k hlt wr HK.out
      have HFh : Hid (Calls Tryd.prog 58 #[.string (Ba l[k]), c1, c2] wr fun e w2 => e = .returned (.bool (d k)) ∧ J (k + 1) w2 ∧ wr.grownBy w2 mB) := HF
      have hkI : (k : Int) < (l.length : Int) := by omega
      clear HF
      generalize Ba l[k] = y at *
      generalize hd : d k = b at *
      have HD : Hid (d k = b) := hd
      clear hd
      cases b with
      | true =>
        go_wp2_with fail
        refine Calls.mono HFh.out ?_
        rintro e w2 ⟨rfl, h1, h2⟩
        have HR2 : Hid (RowT w2 g cap l) := HW.out.kept h2 HNe.out
        have HJ2 : Hid (J (k + 1) w2) := h1
        clear h1 h2
        go_wp2_with fail
        go_ret
        exact ⟨k, rfl, HR2.out, Or.inr ⟨k, rfl, hlt, HD.out, HA.out, HJ2.out⟩⟩
      | false =>
        go_wp2_with fail
        refine Calls.mono HFh.out ?_
        rintro e w2 ⟨rfl, h1, h2⟩
        have HR2 : Hid (RowT w2 g cap l) := HW.out.kept h2 HNe.out
        have HJ2 : Hid (J (k + 1) w2) := h1
        clear h1 h2
        go_wp2_with fail
        go_roundw
        case rel => exact ⟨k + 1, by omega, by go_num, (fun j hj => by
          rcases Nat.lt_succ_iff_lt_or_eq.1 hj with h | h
          · exact HA.out j h
          · subst h; exact HD.out), HR2.out, HJ2.out⟩
        case measure => simp [intOf]; omega
    · have hkI : ¬ ((k : Int) < (l.length : Int)) := by omega
      have HE : Hid (k = l.length) := by show _ = _; omega
      go_wp2_with fail
      go_ret
      exact ⟨-1, rfl, HW.out, Or.inl ⟨rfl, (fun j hj => HA.out j (by have := HE.out; omega)), by have := HK.out; rw [HE.out] at this; exact this⟩⟩
set_option maxRecDepth 100000 in
set_option maxHeartbeats 8000000 in
theorem delF_seen (c1 : Value) (c2 : Value) (g cap : Nat) (l : List Bs) (d : Nat → Bool) (J : Nat → World → Prop) (mB : Option Nat) (hne : some g ≠ mB) (w : World) (hrow : RowT w g cap l) (hl : l.length ≤ 1048576) (hcap : cap ≤ maxLen)
    (HJ : (∀ j (hj : j < l.length) w1, J j w1 → Calls Tryd.prog 58 #[.string (Ba l[j]), c1, c2] w1 fun e w2 => e = .returned (.bool (d j)) ∧ J (j + 1) w2 ∧ w1.grownBy w2 mB)) (HS : ∀ j w1 w2, J j w1 → w1.grownBy w2 (some g) → J j w2) (h0 : J 0 w) :
    Calls Tryd.prog 57 #[.slice (some ⟨g, 0, none⟩) l.length cap, .func (.func 58) #[] #[c1, c2]] w fun e w' => e = .returned (.slice (some ⟨g, 0, none⟩) (keptK l d l.length).length cap) ∧ RowT w' g cap (keptK l d l.length) ∧ J l.length w' := by
  have HI : Hid (Calls Tryd.prog 70 #[.slice (some ⟨g, 0, none⟩) l.length cap, .func (.func 58) #[] #[c1, c2]] w fun e w' => ∃ n : Int, e = .returned (.int .i64 n) ∧ RowT w' g cap l ∧
      ((n = -1 ∧ (∀ j, j < l.length → d j = false) ∧ J l.length w') ∨ ∃ i : Nat, n = (i : Int) ∧ i < l.length ∧ d i = true ∧ (∀ j, j < i → d j = false) ∧ J (i + 1) w')) := idxF_seen c1 c2 g cap l d J mB hne w hrow hl HJ h0
  have HC : Hid (∀ j (hj : j < l.length) w1, J j w1 → Calls Tryd.prog 58 #[.string (Ba l[j]), c1, c2] w1 fun e w2 => e = .returned (.bool (d j)) ∧ J (j + 1) w2 ∧ w1.grownBy w2 mB) := HJ
  have HSt : Hid (∀ j w1 w2, J j w1 → w1.grownBy w2 (some g) → J j w2) := HS
  have HNe : Hid (some g ≠ mB) := hne
  have hlc := hrow.le
  unfold maxLen at hcap
  clear HJ hrow h0 hne HS
  go_enter Tryd.func57, Tryd.ntmps57
  go_wp2_with fail
  refine Calls.mono HI.out ?_
  rintro e w1 ⟨n, rfl, hrow, hcase⟩
  rcases hcase with ⟨rfl, hall, hj⟩ | ⟨i0, rfl, hi0, hd0, hall, hj⟩
  · have HE : Hid (keptK l d l.length = l) := by show _ = _; rw [keptK_all l d l.length (Nat.le_refl _) hall, List.take_of_length_le (Nat.le_refl _)]
    have HR : Hid (RowT w1 g cap l) := hrow
    have HJ1 : Hid (J l.length w1) := hj
    clear hrow hall hj
    go_wp2_with fail
    go_ret
    rw [HE.out]
    exact ⟨rfl, HR.out, HJ1.out⟩
  · have hn1 : ((i0 : Int) == -1) = false := by simp
    have HR : Hid (RowT w1 g cap l) := hrow
    have HJ1 : Hid (J (i0 + 1) w1) := hj
    have HK1 : Hid (keptK l d (i0 + 1) = l.take i0) := by
      show _ = _
      rw [keptK_succ l d hi0, keptK_all l d i0 (by omega) hall, hd0]
      simp
    clear hrow hall hj hd0
    go_wp2_with fail
    go_loopw [5, 6] (fun iv jv wr => ∃ (i j : Nat) (m : List Bs), i < j ∧ j ≤ l.length ∧ iv = .int .i64 i ∧ jv = .int .i64 j ∧ m.length = l.length ∧ m.take i = keptK l d j ∧ m.drop j = l.drop j ∧ RowT wr g cap m ∧ J j wr) (fun _ jv _ => l.length - (intOf jv).toNat)
    case atStart => exact ⟨i0, i0 + 1, l, Nat.lt_succ_self _, hi0, rfl, by go_num, rfl, HK1.out.symm, rfl, HR.out, HJ1.out⟩
    case round =>
      obtain ⟨i, j, m, hij, hjl, rfl, rfl, hml, htk, hdr, hrw, hj⟩ := hrel
      have HW : Hid (RowT wr g cap m) := hrw
      have HK : Hid (J j wr) := hj
      have HT : Hid (m.take i = keptK l d j) := htk
      have HD : Hid (m.drop j = l.drop j) := hdr
      have HM : Hid (m.length = l.length) := hml
      clear hrw hj htk hdr hml HR HJ1 HK1
      by_cases hlt : j < l.length
      · have hmj : m[j]? = some l[j] := by
          have h := congrArg (fun x => x[0]?) HD.out
          simp only [List.getElem?_drop, Nat.add_zero] at h
          rw [h, List.getElem?_eq_getElem hlt]
        have hc0 := HW.out.cell hmj
        have hmi : i < m.length := by have := HM.out; omega
        have hci := HW.out.cell (List.getElem?_eq_getElem hmi)
        have hfi := HW.out.frozen (i := i)
        have hki := HC.out j hlt wr HK.out
        have HFh : Hid (Calls Tryd.prog 58 #[.string (Ba l[j]), c1, c2] wr fun e w2 => e = .returned (.bool (d j)) ∧ J (j + 1) w2 ∧ wr.grownBy w2 mB) := hki
        have hkI : (j : Int) < (l.length : Int) := by omega
        have HKs : Hid (keptK l d (j + 1) = keptK l d j ++ (if d j then [] else [l[j]])) := keptK_succ l d hlt
        have HMi : Hid (i < m.length) := hmi
        clear hki hmj hci hfi hmi
        generalize hs : l[j] = s at *
        have HSs : Hid (l[j] = s) := hs
        clear hs
        generalize hy : Ba s = y at *
        have HY : Hid (Ba s = y) := hy
        clear hy
        generalize hd : d j = b at *
        have HDj : Hid (d j = b) := hd
        clear hd
        cases b with
        | true =>
          go_wp2_with fail
          refine Calls.mono HFh.out ?_
          rintro e w2 ⟨rfl, h1, h2⟩
          have HR2 : Hid (RowT w2 g cap m) := HW.out.kept h2 HNe.out
          have HJ2 : Hid (J (j + 1) w2) := h1
          clear h1 h2
          go_wp2_with fail
          go_roundw
          case rel => exact ⟨i, j + 1, m, by omega, by omega, rfl, by go_num, HM.out, by rw [HKs.out, HT.out]; simp, by rw [← List.drop_drop, ← List.drop_drop, HD.out], HR2.out, HJ2.out⟩
          case measure => simp [intOf]; omega
        | false =>
          go_wp2_with fail
          refine Calls.mono HFh.out ?_
          rintro e w2 ⟨rfl, h1, h2⟩
          have HR2 : Hid (RowT w2 g cap m) := HW.out.kept h2 HNe.out
          have hci := HR2.out.cell (List.getElem?_eq_getElem HMi.out)
          have hfi := HR2.out.frozen (i := i)
          have HJ2 : Hid (J (j + 1) w2) := h1
          have HR3 : Hid (RowT (w2.setCell ⟨g, i, none⟩ (.string y)) g cap (m.set i s)) := by rw [← HY.out]; exact HR2.out.set HMi.out s
          have HJ3 : Hid (J (j + 1) (w2.setCell ⟨g, i, none⟩ (.string y))) := HSt.out _ _ _ h1 grown_set1
          have HT3 : Hid ((m.set i s).take (i + 1) = keptK l d (j + 1)) := by
            show _ = _
            rw [HKs.out, ← HT.out, if_neg (by decide), List.take_succ_eq_append_getElem (by rw [List.length_set]; exact HMi.out), List.take_set_of_le (Nat.le_refl _), List.getElem_set_self]
          have HD3 : Hid ((m.set i s).drop (j + 1) = l.drop (j + 1)) := by
            show _ = _
            rw [List.drop_set_of_lt (by omega), ← List.drop_drop, ← List.drop_drop, HD.out]
          clear h1 h2
          generalize Ba (m[i]'HMi.out) = old at *
          go_wp2_with fail
          go_roundw
          case rel => exact ⟨i + 1, j + 1, m.set i s, by omega, by omega, by go_num, by go_num, by rw [List.length_set]; exact HM.out, HT3.out, HD3.out, HR3.out, HJ3.out⟩
          case measure => simp [intOf]; omega
      · have hjE : j = l.length := by omega
        have hkI : ¬ ((j : Int) < (l.length : Int)) := by omega
        have HIl : Hid (i = (keptK l d l.length).length) := by
          show _ = _
          rw [← hjE, ← HT.out, List.length_take]
          have := HM.out
          omega
        have hcl : ∀ ty, (Builtin.clear_ #[26] ty #[.slice (some ⟨g, i, none⟩) (l.length - i) (cap - i)]).run Tryd.prog wr = .ok (.tuple #[]) (wr.setCells g i (List.replicate (l.length - i) (.string ⟨#[]⟩))) :=
          fun ty => Lib.run_clear_slice wr _ _ ty _ Tryd.underlying26 (fun w => by kernel_rfl) rfl rfl g i _ _ (by omega) (fun t ht => by
            have hlt : i + t < m.length := by have := HM.out; omega
            rw [HW.out.cell (List.getElem?_eq_getElem hlt)]; rfl) (fun t ht => HW.out.frozen)
        have HR3 : Hid (RowT (wr.setCells g i (List.replicate (l.length - i) (.string ⟨#[]⟩))) g cap (keptK l d l.length)) := by
          have h := HW.out.clear (i := i) (by have := HM.out; omega) (List.replicate (l.length - i) (.string ⟨#[]⟩)) (by rw [List.length_replicate]; omega)
          rw [HT.out, hjE] at h
          exact h
        have HJ3 : Hid (J l.length (wr.setCells g i (List.replicate (l.length - i) (.string ⟨#[]⟩)))) := by
          have h := HSt.out _ _ _ HK.out (grown_sets (b := g) (List.replicate (l.length - i) (.string ⟨#[]⟩)) i wr)
          rw [hjE] at h
          exact h
        have hicap : ((cap : Int) == (i : Int)) = false := by simp; omega
        clear hjE
        go_wp2_with fail
        go_ret
        exact ⟨by rw [← HIl.out]; rfl, HR3.out, HJ3.out⟩
end Go.Proofs.YtnjjlnhchfoigabDoor
