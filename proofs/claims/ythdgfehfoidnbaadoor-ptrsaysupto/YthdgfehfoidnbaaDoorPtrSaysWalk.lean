/- The walk of the law PtrSays over this translation. -/
import Derived.Test.YthdgfehfoidnbaaDoorRefSteps
import Derived.Test.YthdgfehfoidnbaaDoorRefJoin
import Derived.Test.YthdgfehfoidnbaaDoorBackWalk
namespace Go.Proofs.YthdgfehfoidnbaaDoor
open Go.RowKit
set_option linter.unusedVariables false
set_option linter.unusedSimpArgs false
/-- both answers of Steps in one form: the list (none, if there is an error) and the number -/
theorem steps_form {p : Bs} {w : World} {e : Ending} {w' : World} (h : StepsPost p w e w') : Below w.heap.size w w' ∧ ∃ v : Value, Strs w' v (match stepsE p with | .error _ => [] | .ok l => l) ∧ e = .returned (.tuple #[v, .int .i64 ((match stepsE p with | .error er => er | .ok _ => 0 : Nat) : Int)]) := by
  obtain ⟨b, h⟩ := h
  refine ⟨b, ?_⟩
  rcases h with ⟨er, h1, _, _, rfl⟩ | ⟨l, v, h1, rfl, h2⟩
  · rw [h1]
    exact ⟨_, Or.inl ⟨rfl, _, _, rfl⟩, rfl⟩
  · rw [h1]
    exact ⟨v, h2, rfl⟩
theorem join_form (l : List Bs) : ∃ (s : ByteArray) (er : Int), joinA l = #[.string s, .int .i64 er] := by
  unfold joinA
  split
  · exact ⟨_, _, rfl⟩
  · exact ⟨_, _, rfl⟩
set_option maxRecDepth 100000 in
set_option maxHeartbeats 4000000 in
theorem says_walk (p : ByteArray) (v : Value) (l : List Bs) (w : World) (hv : Strs w v l) (hl : l.length ≤ 1100000) (hsum : (l.map List.length).sum ≤ 1100000) (hp : p.size ≤ 1100000) (hR : Room w) :
    Calls Tryd.prog 3 #[.string p, v] w fun e w' => e = .returned (.bool true) ∧ Below w.heap.size w w' := by
  obtain ⟨s, er, hj⟩ := join_form l
  obtain ⟨L, hL⟩ : ∃ L, (match stepsE p.data.toList with | .error _ => [] | .ok l => l) = L := ⟨_, rfl⟩
  obtain ⟨n, hn⟩ : ∃ n : Nat, (match stepsE p.data.toList with | .error er => er | .ok _ => 0 : Nat) = n := ⟨_, rfl⟩
  have HS : Hid (Calls Tryd.prog 5 #[.string p] w fun e w' => ∃ v2, e = .returned (.tuple #[v2, .int .i64 n]) ∧ Strs w' v2 L ∧ Below w.heap.size w w') := by
    refine (steps_any p w (by omega) hR).mono ?_
    intro e w1 h1
    obtain ⟨b, v2, h2, h3⟩ := steps_form h1
    rw [hL] at h2
    rw [hn] at h3
    exact ⟨v2, h3, h2, b⟩
  have HT : Hid (∀ w1, Calls Tryd.prog 6 #[.string p] w1 fun e w' => ∃ v2, e = .returned (.tuple #[v2, .int .i64 n]) ∧ Strs w' v2 L ∧ Below w1.heap.size w1 w') := by
    intro w1
    refine (refSteps_any p w1 (by omega)).mono ?_
    intro e w2 h1
    obtain ⟨b, v2, h2, h3⟩ := steps_form h1
    rw [hL] at h2
    rw [hn] at h3
    exact ⟨v2, h3, h2, b⟩
  have HJ : Hid (∀ w1, Below w.heap.size w w1 → Calls Tryd.prog 7 #[v] w1 fun e w' => e = .returned (.tuple #[.string s, .int .i64 er]) ∧ Below w1.heap.size w1 w') := by
    intro w1 hb
    have h := join_any v l w1 (hv.below hb) (by omega) (by omega) (hR.below hb)
    rw [hj] at h
    exact h
  have HK : Hid (∀ w1, Below w.heap.size w w1 → Calls Tryd.prog 8 #[v] w1 fun e w' => e = .returned (.tuple #[.string s, .int .i64 er]) ∧ Below w1.heap.size w1 w') := by
    intro w1 hb
    have h := refJoin_any v l w1 (hv.below hb) (by omega) (by omega)
    rw [hj] at h
    refine h.mono ?_
    rintro e w2 ⟨rfl, rfl⟩
    exact ⟨rfl, Below.refl _ _⟩
  have HEq : Hid (∀ w1 a b, Strs w1 a L → Strs w1 b L → Calls Tryd.prog 9 #[a, b] w1 fun e w' => e = .returned (.bool true) ∧ Below w1.heap.size w1 w') := by
    intro w1 a b h1 h2
    have h := eq_any a b L L w1 h1 h2
    rw [show (L == L) = true from by simp] at h
    exact h
  clear hj hL hn hv hR hsum hl hp
  go_enter Tryd.func3, Tryd.ntmps3
  go_wp2_with fail
  refine Calls.mono HS.out ?_
  rintro e w1 ⟨va, rfl, hva, b1⟩
  have HB1 : Hid (Below w.heap.size w w1) := b1
  have HVa : Hid (Strs w1 va L) := hva
  clear b1 hva
  go_wp2_with fail
  refine Calls.mono (HT.out w1) ?_
  rintro e w2 ⟨vb, rfl, hvb, b2⟩
  have HB2 : Hid (Below w.heap.size w w2) := HB1.out.trans (b2.mono HB1.out.size)
  have HVb : Hid (Strs w2 vb L) := hvb
  have HVa2 : Hid (Strs w2 va L) := HVa.out.below b2
  clear b2 hvb
  go_wp2_with fail
  refine Calls.mono (HJ.out w2 HB2.out) ?_
  rintro e w3 ⟨rfl, b3⟩
  have HB3 : Hid (Below w.heap.size w w3) := HB2.out.trans (b3.mono HB2.out.size)
  have HVb3 : Hid (Strs w3 vb L) := HVb.out.below b3
  have HVa3 : Hid (Strs w3 va L) := HVa2.out.below b3
  clear b3
  go_wp2_with fail
  refine Calls.mono (HK.out w3 HB3.out) ?_
  rintro e w4 ⟨rfl, b4⟩
  have HB4 : Hid (Below w.heap.size w w4) := HB3.out.trans (b4.mono HB3.out.size)
  have HVb4 : Hid (Strs w4 vb L) := HVb3.out.below b4
  have HVa4 : Hid (Strs w4 va L) := HVa3.out.below b4
  clear b4
  go_wp2_with fail
  refine Calls.mono (HEq.out w4 _ _ HVa4.out HVb4.out) ?_
  rintro e w5 ⟨rfl, b5⟩
  have HB5 : Hid (Below w.heap.size w w5) := HB4.out.trans (b5.mono HB4.out.size)
  clear b5
  go_wp2_with fail
  go_ret
  exact ⟨rfl, HB5.out⟩
end Go.Proofs.YthdgfehfoidnbaaDoor
