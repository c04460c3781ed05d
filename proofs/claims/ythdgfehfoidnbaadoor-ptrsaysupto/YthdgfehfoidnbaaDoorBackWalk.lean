/- The walk of the law PtrBack over this translation. -/
import Derived.Test.YthdgfehfoidnbaaDoorPtrEq
namespace Go.Proofs.YthdgfehfoidnbaaDoor
open Go.RowKit
set_option linter.unusedVariables false
set_option linter.unusedSimpArgs false
theorem written_ge : ∀ s : Bs, s.length ≤ (written s).length
  | [] => Nat.le_refl _
  | c :: s => by
    have := written_ge s
    have e : written (c :: s) = esc c ++ written s := rfl
    have h : 1 ≤ (esc c).length := by
      unfold esc
      split
      · simp
      · split <;> simp
    rw [e, List.length_append, List.length_cons]
    omega
theorem sum_le_join (l : List Bs) : (l.map List.length).sum ≤ (joinB l).length := by
  induction l with
  | nil => simp
  | cons x l ih =>
    have := written_ge x
    simp only [joinB, List.length_cons, List.length_append, List.map_cons, List.sum_cons]
    omega
theorem steps_sum {p : Bs} {l : List Bs} (h : stepsE p = .ok l) : (l.map List.length).sum ≤ p.length := by
  have h1 := sum_le_join l
  rw [(join_steps h).1] at h1
  exact h1
theorem strs_shape {w : World} {v : Value} {l : List Bs} (h : Strs w v l) : ∃ q cap, v = .slice q l.length cap := by
  rcases h with ⟨rfl, _, _, rfl⟩ | ⟨g, o, cap, rfl, _⟩ <;> exact ⟨_, _, rfl⟩
set_option maxRecDepth 100000 in
set_option maxHeartbeats 4000000 in
theorem back_walk (v : Value) (l : List Bs) (p : ByteArray) (w : World) (hv : Strs w v l) (hl : l.length ≤ 1100000) (hsum : (l.map List.length).sum ≤ 1100000) (hp : p.size ≤ 1100000) (hR : Room w) :
    Calls Tryd.prog 4 #[v, .string p] w fun e w' => e = .returned (.bool true) ∧ Below w.heap.size w w' := by
  have HJ := join_any v l w hv (by omega) (by omega) hR
  obtain ⟨q, cap, hq⟩ := strs_shape hv
  by_cases h10 : 10 < l.length
  · have hA : joinA l = #[.string ByteArray.empty, .int .i64 2] := by unfold joinA; rw [if_pos h10]
    rw [hA] at HJ
    have HJ' : Hid (Calls Tryd.prog 7 #[v] w fun e w' => e = .returned (.tuple #[.string ByteArray.empty, .int .i64 2]) ∧ Below w.heap.size w w') := HJ
    subst hq
    have hI : (10 : Int) < (l.length : Int) := by omega
    clear HJ hv hA hR hsum
    go_enter Tryd.func4, Tryd.ntmps4
    go_wp2_with fail
    refine Calls.mono HJ'.out ?_
    rintro e w1 ⟨rfl, b1⟩
    have HB1 : Hid (Below w.heap.size w w1) := b1
    clear b1
    go_wp2_with fail
    go_ret
    exact ⟨rfl, HB1.out⟩
  · have hA : joinA l = #[.string ⟨(joinB l).toArray⟩, .int .i64 0] := by unfold joinA; rw [if_neg h10]
    rw [hA] at HJ
    have hjl := joinB_len l
    have hs : (⟨(joinB l).toArray⟩ : ByteArray).size ≤ 8000000 := by rw [size_of]; omega
    have hd1 : (⟨(joinB l).toArray⟩ : ByteArray).data.toList = joinB l := by simp
    have hst := steps_join l (by omega)
    have HS1 : Hid (∀ w1, Below w.heap.size w w1 → Calls Tryd.prog 5 #[.string ⟨(joinB l).toArray⟩] w1 fun e w' => ∃ v2, e = .returned (.tuple #[v2, .int .i64 0]) ∧ Strs w' v2 l ∧ Below w1.heap.size w1 w') := by
      intro w1 hb
      refine (steps_any ⟨(joinB l).toArray⟩ w1 hs (hR.below hb)).mono ?_
      rintro e w2 ⟨b2, h2⟩
      rw [hd1, hst] at h2
      rcases h2 with ⟨er, h, _⟩ | ⟨l2, v2, h, rfl, h3⟩
      · cases h
      · cases h
        exact ⟨v2, rfl, h3, b2⟩
    have HJ' : Hid (Calls Tryd.prog 7 #[v] w fun e w' => e = .returned (.tuple #[.string ⟨(joinB l).toArray⟩, .int .i64 0]) ∧ Below w.heap.size w w') := HJ
    have HV : Hid (Strs w v l) := hv
    have HRm : Hid (Room w) := hR
    have HEq : Hid (∀ w1 v2, Below w.heap.size w w1 → Strs w1 v2 l → Calls Tryd.prog 9 #[v, v2] w1 fun e w' => e = .returned (.bool true) ∧ Below w1.heap.size w1 w') := by
      intro w1 v2 hb h2
      have h := eq_any v v2 l l w1 (hv.below hb) h2
      rw [show (l == l) = true from by simp] at h
      exact h
    have hI : ¬ (10 : Int) < (l.length : Int) := by omega
    clear HJ hA hv hR hst hd1 hs hjl hq
    generalize (⟨(joinB l).toArray⟩ : ByteArray) = s at *
    go_enter Tryd.func4, Tryd.ntmps4
    go_wp2_with fail
    refine Calls.mono HJ'.out ?_
    rintro e w1 ⟨rfl, b1⟩
    have HB1 : Hid (Below w.heap.size w w1) := b1
    clear b1
    go_wp2_with fail
    refine Calls.mono (HS1.out w1 HB1.out) ?_
    rintro e w2 ⟨v2, rfl, hv2, b2⟩
    have HB2 : Hid (Below w.heap.size w w2) := HB1.out.trans (b2.mono HB1.out.size)
    have HV2 : Hid (Strs w2 v2 l) := hv2
    obtain ⟨q2, cap2, hq2⟩ := strs_shape hv2
    subst hq2
    clear b2 hv2
    go_wp2_with fail
    refine (steps_any p w2 (by omega) (HRm.out.below HB2.out)).mono ?_
    rintro e w3 ⟨b3, h3⟩
    have HB3 : Hid (Below w.heap.size w w3) := HB2.out.trans (b3.mono HB2.out.size)
    have HV3 : Hid (Strs w3 (.slice q2 l.length cap2) l) := HV2.out.below b3
    clear b3
    rcases h3 with ⟨er, her, her1, her2, rfl⟩ | ⟨k, v3, hk, rfl, hv3⟩
    · have hbe : ((er : Int) == 0) = false := by rw [beq_eq_false_iff_ne]; omega
      clear her
      go_wp2_with fail
      refine Calls.mono (HEq.out w3 _ HB3.out HV3.out) ?_
      rintro e w4 ⟨rfl, b4⟩
      have HB4 : Hid (Below w.heap.size w w4) := HB3.out.trans (b4.mono HB3.out.size)
      clear b4
      go_wp2_with fail
      go_ret
      exact ⟨rfl, HB4.out⟩
    · have hks := steps_sum hk
      obtain ⟨hj1, hj2⟩ := join_steps hk
      have hpl : p.data.toList.length = p.size := by simp
      have HK := join_any v3 k w3 hv3 (by omega) (by omega) (HRm.out.below HB3.out)
      have hA : joinA k = #[.string p, .int .i64 0] := by
        unfold joinA
        rw [if_neg (by omega), hj1, ba_self]
      rw [hA] at HK
      have HK' : Hid (Calls Tryd.prog 7 #[v3] w3 fun e w' => e = .returned (.tuple #[.string p, .int .i64 0]) ∧ Below w3.heap.size w3 w') := HK
      obtain ⟨q3, cap3, hq3⟩ := strs_shape hv3
      subst hq3
      clear HK hA hv3 hk hj1 hks
      go_wp2_with fail
      refine Calls.mono HK'.out ?_
      rintro e w4 ⟨rfl, b4⟩
      have HB4 : Hid (Below w.heap.size w w4) := HB3.out.trans (b4.mono HB3.out.size)
      have HV4 : Hid (Strs w4 (.slice q2 l.length cap2) l) := HV3.out.below b4
      clear b4
      go_wp2_with fail
      refine Calls.mono (HEq.out w4 _ HB4.out HV4.out) ?_
      rintro e w5 ⟨rfl, b5⟩
      have HB5 : Hid (Below w.heap.size w w5) := HB4.out.trans (b5.mono HB4.out.size)
      clear b5
      go_wp2_with fail
      go_ret
      exact ⟨rfl, HB5.out⟩
end Go.Proofs.YthdgfehfoidnbaaDoor
