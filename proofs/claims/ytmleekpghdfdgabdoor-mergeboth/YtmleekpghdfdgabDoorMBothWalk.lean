/- The law MergeBoth over this translation: it answers true at every three texts, and leaves old memory alone. -/
import Derived.Test.YtmleekpghdfdgabDoorM11
namespace Go.Proofs.YtmleekpghdfdgabDoor
open Go.RowKit
set_option linter.unusedVariables false
set_option linter.unusedSimpArgs false
set_option maxRecDepth 100000 in
set_option maxHeartbeats 4000000 in
theorem both_walk (N : Nat) (hN : 20 ≤ N) (hN2 : N ≤ 1000) (a b q : ByteArray) (w : World) (ha : a.size ≤ maxLen) (hb : b.size ≤ maxLen) (hq : q.size ≤ maxLen) (hT : Tab w.heap.size w) :
    Calls Tryd.prog 4 #[.string a, .string b, .string q] w fun e w' => e = .returned (.bool true) ∧ Below w.heap.size w w' := by
  have H1 : Hid (SaysM w 7 #[.string ⟨#[49]⟩, .string ⟨#[123, 125]⟩] (.tuple #[.string ByteArray.empty, .int .i64 9])) := compose_says hN hN2 hT (few [49] (by decide)) (few [123, 125] (by decide)) rfl rfl (compose_1o hN) ⟨_, _, rfl⟩
  rcases bothA_cases hN (compose_makes N) b.data.toList q.data.toList with ⟨er, her, hlt, h⟩ | ⟨P, Q, c, rP, rQ, hc, tP, tQ, tc, h⟩
  · have HC : Hid (SaysM w 7 #[.string b, .string q] (.tuple #[.string ByteArray.empty, .int .i64 er])) := compose_says hN hN2 hT hb hq rfl rfl h ⟨_, _, rfl⟩
    have hbe : ((er : Int) != 0) = true := by rw [bne_iff_ne]; omega
    clear hT h
    go_enter Tryd.func4, Tryd.ntmps4
    go_wp2_with fail
    refine Calls.mono (HC.out w (Below.refl _ _)) ?_
    rintro e w1 ⟨rfl, b1⟩
    have HB1 : Hid (Below w.heap.size w w1) := b1
    clear b1
    go_wp2_with fail
    refine Calls.mono (H1.out w1 HB1.out) ?_
    rintro e w2 ⟨rfl, b2⟩
    have HB2 : Hid (Below w.heap.size w w2) := HB1.out.trans (b2.mono HB1.out.size)
    clear b2
    go_wp2_with fail
    go_ret
    exact ⟨rfl, HB2.out⟩
  · have HC : Hid (SaysM w 7 #[.string b, .string q] (.tuple #[.string ⟨(tell N c).toArray⟩, .int .i64 0])) := compose_says hN hN2 hT hb hq rfl rfl h ⟨_, _, rfl⟩
    rcases bothA_cases hN (apply_makes N) a.data.toList b.data.toList with ⟨er, her, hlt, h2⟩ | ⟨A, P', j, rA, rP', hj, tA, tP', tj, h2⟩
    · have HA : Hid (SaysM w 6 #[.string a, .string b] (.tuple #[.string ByteArray.empty, .int .i64 er])) := apply_says hN hN2 hT ha hb rfl rfl h2 ⟨_, _, rfl⟩
      have hbe : ((er : Int) != 0) = true := by rw [bne_iff_ne]; omega
      clear hT h h2 rP rQ hc tP tQ tc
      generalize (⟨(tell N c).toArray⟩ : ByteArray) = tx at *
      go_enter Tryd.func4, Tryd.ntmps4
      go_wp2_with fail
      refine Calls.mono (HC.out w (Below.refl _ _)) ?_
      rintro e w1 ⟨rfl, b1⟩
      have HB1 : Hid (Below w.heap.size w w1) := b1
      clear b1
      go_wp2_with fail
      refine Calls.mono (H1.out w1 HB1.out) ?_
      rintro e w2 ⟨rfl, b2⟩
      have HB2 : Hid (Below w.heap.size w w2) := HB1.out.trans (b2.mono HB1.out.size)
      clear b2
      go_wp2_with fail
      refine Calls.mono (HA.out w2 HB2.out) ?_
      rintro e w3 ⟨rfl, b3⟩
      have HB3 : Hid (Below w.heap.size w w3) := HB2.out.trans (b3.mono HB2.out.size)
      clear b3
      go_wp2_with fail
      go_ret
      exact ⟨rfl, HB3.out⟩
    · have HA : Hid (SaysM w 6 #[.string a, .string b] (.tuple #[.string ⟨(tell N j).toArray⟩, .int .i64 0])) := apply_says hN hN2 hT ha hb rfl rfl h2 ⟨_, _, rfl⟩
      have eP : P' = P := by rw [rP] at rP'; exact (Except.ok.inj rP').symm
      subst eP
      have hj' : mergedP N (some A) P' = j := Except.ok.inj hj
      have hone : mergedP N (some j) Q = mergedP N (some A) c := by
        rw [← hj']
        exact merged_both N (some A) P' Q c (fun x hx => by cases hx; exact tA.good) tP.good tQ.good hc
      have e1 : bothA N (applyR N) (tell N j) q.data.toList = toldE N (mergedP N (some j) Q) := by
        unfold bothA
        rw [tj.again hN, rQ]
        rfl
      have e2 : bothA N (applyR N) a.data.toList (tell N c) = toldE N (mergedP N (some j) Q) := by
        unfold bothA
        rw [rA, tc.again hN, hone]
        rfl
      obtain ⟨s, er, hform⟩ := toldE_form N (mergedP N (some j) Q)
      rw [hform] at e1 e2
      have HB : Hid (SaysM w 6 #[.string ⟨(tell N j).toArray⟩, .string q] (.tuple #[.string s, .int .i64 er])) := apply_says hN hN2 hT (told_small tj) hq rfl rfl e1 ⟨_, _, rfl⟩
      have HD : Hid (SaysM w 6 #[.string a, .string ⟨(tell N c).toArray⟩] (.tuple #[.string s, .int .i64 er])) := apply_says hN hN2 hT ha (told_small tc) rfl rfl e2 ⟨_, _, rfl⟩
      clear hT h h2 rP rQ hc tP tQ tc rA rP' hj tA tP' tj hj' hone e1 e2 hform
      generalize (⟨(tell N c).toArray⟩ : ByteArray) = tx at *
      generalize (⟨(tell N j).toArray⟩ : ByteArray) = ty at *
      by_cases her : er = 0
      · subst her
        go_enter Tryd.func4, Tryd.ntmps4
        go_wp2_with fail
        refine Calls.mono (HC.out w (Below.refl _ _)) ?_
        rintro e w1 ⟨rfl, b1⟩
        have HB1 : Hid (Below w.heap.size w w1) := b1
        clear b1
        go_wp2_with fail
        refine Calls.mono (H1.out w1 HB1.out) ?_
        rintro e w2 ⟨rfl, b2⟩
        have HB2 : Hid (Below w.heap.size w w2) := HB1.out.trans (b2.mono HB1.out.size)
        clear b2
        go_wp2_with fail
        refine Calls.mono (HA.out w2 HB2.out) ?_
        rintro e w3 ⟨rfl, b3⟩
        have HB3 : Hid (Below w.heap.size w w3) := HB2.out.trans (b3.mono HB2.out.size)
        clear b3
        go_wp2_with fail
        refine Calls.mono (HB.out w3 HB3.out) ?_
        rintro e w4 ⟨rfl, b4⟩
        have HB4 : Hid (Below w.heap.size w w4) := HB3.out.trans (b4.mono HB3.out.size)
        clear b4
        go_wp2_with fail
        refine Calls.mono (HD.out w4 HB4.out) ?_
        rintro e w5 ⟨rfl, b5⟩
        have HB5 : Hid (Below w.heap.size w w5) := HB4.out.trans (b5.mono HB4.out.size)
        clear b5
        go_wp2_with fail
        go_ret
        exact ⟨rfl, HB5.out⟩
      · have hbe : ((er : Int) != 0) = true := by rw [bne_iff_ne]; omega
        clear her
        go_enter Tryd.func4, Tryd.ntmps4
        go_wp2_with fail
        refine Calls.mono (HC.out w (Below.refl _ _)) ?_
        rintro e w1 ⟨rfl, b1⟩
        have HB1 : Hid (Below w.heap.size w w1) := b1
        clear b1
        go_wp2_with fail
        refine Calls.mono (H1.out w1 HB1.out) ?_
        rintro e w2 ⟨rfl, b2⟩
        have HB2 : Hid (Below w.heap.size w w2) := HB1.out.trans (b2.mono HB1.out.size)
        clear b2
        go_wp2_with fail
        refine Calls.mono (HA.out w2 HB2.out) ?_
        rintro e w3 ⟨rfl, b3⟩
        have HB3 : Hid (Below w.heap.size w w3) := HB2.out.trans (b3.mono HB2.out.size)
        clear b3
        go_wp2_with fail
        refine Calls.mono (HB.out w3 HB3.out) ?_
        rintro e w4 ⟨rfl, b4⟩
        have HB4 : Hid (Below w.heap.size w w4) := HB3.out.trans (b4.mono HB3.out.size)
        clear b4
        go_wp2_with fail
        refine Calls.mono (HD.out w4 HB4.out) ?_
        rintro e w5 ⟨rfl, b5⟩
        have HB5 : Hid (Below w.heap.size w w5) := HB4.out.trans (b5.mono HB4.out.size)
        clear b5
        go_wp2_with fail
        go_ret
        exact ⟨rfl, HB5.out⟩
end Go.Proofs.YtmleekpghdfdgabDoor
