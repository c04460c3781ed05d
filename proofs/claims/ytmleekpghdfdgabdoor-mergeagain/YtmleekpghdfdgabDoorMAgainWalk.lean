/- The law MergeAgain over this translation: it answers true at every two texts, and leaves old memory alone. -/
import Derived.Test.YtmleekpghdfdgabDoorM11
namespace Go.Proofs.YtmleekpghdfdgabDoor
open Go.RowKit
set_option linter.unusedVariables false
set_option linter.unusedSimpArgs false
set_option maxRecDepth 100000 in
set_option maxHeartbeats 4000000 in
theorem again_walk (N : Nat) (hN : 20 ≤ N) (hN2 : N ≤ 1000) (a b : ByteArray) (w : World) (ha : a.size ≤ maxLen) (hb : b.size ≤ maxLen) (hT : Tab w.heap.size w) :
    Calls Tryd.prog 3 #[.string a, .string b] w fun e w' => e = .returned (.bool true) ∧ Below w.heap.size w w' := by
  have H1 : Hid (SaysM w 6 #[.string ⟨#[49]⟩, .string ⟨#[50]⟩] (.tuple #[.string ⟨#[50]⟩, .int .i64 0])) := apply_says hN hN2 hT (few [49] (by decide)) (few [50] (by decide)) rfl rfl (apply_12 hN) ⟨_, _, rfl⟩
  rcases bothA_cases hN (apply_makes N) a.data.toList b.data.toList with ⟨er, her, hlt, h⟩ | ⟨A, B, j, rA, rB, hj, tA, tB, tj, h⟩
  · have HA : Hid (SaysM w 6 #[.string a, .string b] (.tuple #[.string ByteArray.empty, .int .i64 er])) := apply_says hN hN2 hT ha hb rfl rfl h ⟨_, _, rfl⟩
    have hbe : ((er : Int) != 0) = true := by rw [bne_iff_ne]; omega
    clear hT h
    go_enter Tryd.func3, Tryd.ntmps3
    go_wp2_with fail
    refine Calls.mono (HA.out w (Below.refl _ _)) ?_
    rintro e w1 ⟨rfl, b1⟩
    have HB1 : Hid (Below w.heap.size w w1) := b1
    clear b1
    go_wp2_with fail
    refine Calls.mono (H1.out w1 HB1.out) ?_
    rintro e w2 ⟨rfl, b2⟩
    have HB2 : Hid (Below w.heap.size w w2) := HB1.out.trans (b2.mono HB1.out.size)
    clear b2
    go_wp2_with fail
    go_ret
    exact ⟨rfl, HB2.out⟩
  · have HA : Hid (SaysM w 6 #[.string a, .string b] (.tuple #[.string ⟨(tell N j).toArray⟩, .int .i64 0])) := apply_says hN hN2 hT ha hb rfl rfl h ⟨_, _, rfl⟩
    have hj' : mergedP N (some A) B = j := Except.ok.inj hj
    have hag : bothA N (applyR N) (tell N j) b.data.toList = #[.string ⟨(tell N j).toArray⟩, .int .i64 0] := by
      have hm : mergedP N (some j) B = j := by
        have := merged_again N (some A) B (fun x hx => by cases hx; exact tA.good) tB.good
        rw [hj'] at this
        exact this
      unfold bothA
      rw [tj.again hN, rB]
      show toldE N (mergedP N (some j) B) = _
      rw [hm]
      exact tj.told
    have HU : Hid (SaysM w 6 #[.string ⟨(tell N j).toArray⟩, .string b] (.tuple #[.string ⟨(tell N j).toArray⟩, .int .i64 0])) := apply_says hN hN2 hT (told_small tj) hb rfl rfl hag ⟨_, _, rfl⟩
    clear hT h hj hj' hag rA rB tA tB tj
    generalize (⟨(tell N j).toArray⟩ : ByteArray) = t at *
    go_enter Tryd.func3, Tryd.ntmps3
    go_wp2_with fail
    refine Calls.mono (HA.out w (Below.refl _ _)) ?_
    rintro e w1 ⟨rfl, b1⟩
    have HB1 : Hid (Below w.heap.size w w1) := b1
    clear b1
    go_wp2_with fail
    refine Calls.mono (H1.out w1 HB1.out) ?_
    rintro e w2 ⟨rfl, b2⟩
    have HB2 : Hid (Below w.heap.size w w2) := HB1.out.trans (b2.mono HB1.out.size)
    clear b2
    go_wp2_with fail
    refine Calls.mono (HU.out w2 HB2.out) ?_
    rintro e w3 ⟨rfl, b3⟩
    have HB3 : Hid (Below w.heap.size w w3) := HB2.out.trans (b3.mono HB2.out.size)
    clear b3
    go_wp2_with fail
    go_ret
    exact ⟨rfl, HB3.out⟩
end Go.Proofs.YtmleekpghdfdgabDoor
