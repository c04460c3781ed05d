/- The law MergeThree over this translation: it answers true at every three texts, and leaves old memory alone. -/
import Derived.Test.YtmleekpghdfdgabDoorM11
namespace Go.Proofs.YtmleekpghdfdgabDoor
open Go.RowKit
set_option linter.unusedVariables false
set_option linter.unusedSimpArgs false
set_option maxRecDepth 100000 in
set_option maxHeartbeats 4000000 in
theorem three_walk (N : Nat) (hN : 20 ≤ N) (hN2 : N ≤ 1000) (p q r : ByteArray) (w : World) (hp : p.size ≤ maxLen) (hq : q.size ≤ maxLen) (hr : r.size ≤ maxLen) (hT : Tab w.heap.size w) :
    Calls Tryd.prog 5 #[.string p, .string q, .string r] w fun e w' => e = .returned (.bool true) ∧ Below w.heap.size w w' := by
  have H1 : Hid (SaysM w 7 #[.string ⟨#[49]⟩, .string ⟨#[123, 125]⟩] (.tuple #[.string ByteArray.empty, .int .i64 9])) := compose_says hN hN2 hT (few [49] (by decide)) (few [123, 125] (by decide)) rfl rfl (compose_1o hN) ⟨_, _, rfl⟩
  rcases bothA_cases hN (compose_makes N) p.data.toList q.data.toList with ⟨er, her, hlt, h⟩ | ⟨P, Q, a, rP, rQ, ha, tP, tQ, ta, h⟩
  · have HA : Hid (SaysM w 7 #[.string p, .string q] (.tuple #[.string ByteArray.empty, .int .i64 er])) := compose_says hN hN2 hT hp hq rfl rfl h ⟨_, _, rfl⟩
    have hbe : ((er : Int) != 0) = true := by rw [bne_iff_ne]; omega
    have hform : ∃ (s : ByteArray) (ef : Nat), bothA N (composedP N) q.data.toList r.data.toList = #[.string s, .int .i64 ef] := by
      rcases bothA_cases hN (compose_makes N) q.data.toList r.data.toList with ⟨er, _, _, h⟩ | ⟨_, _, _, _, _, _, _, _, _, h⟩
      · exact ⟨_, _, h⟩
      · exact ⟨_, 0, h⟩
    obtain ⟨s, ef, hf⟩ := hform
    have HB : Hid (SaysM w 7 #[.string q, .string r] (.tuple #[.string s, .int .i64 ef])) := compose_says hN hN2 hT hq hr rfl rfl hf ⟨_, _, rfl⟩
    clear hT h hf
    go_enter Tryd.func5, Tryd.ntmps5
    go_wp2_with fail
    refine Calls.mono (H1.out w (Below.refl _ _)) ?_
    rintro e w1 ⟨rfl, b1⟩
    have HB1 : Hid (Below w.heap.size w w1) := b1
    clear b1
    go_wp2_with fail
    refine Calls.mono (HA.out w1 HB1.out) ?_
    rintro e w2 ⟨rfl, b2⟩
    have HB2 : Hid (Below w.heap.size w w2) := HB1.out.trans (b2.mono HB1.out.size)
    clear b2
    go_wp2_with fail
    refine Calls.mono (HB.out w2 HB2.out) ?_
    rintro e w3 ⟨rfl, b3⟩
    have HB3 : Hid (Below w.heap.size w w3) := HB2.out.trans (b3.mono HB2.out.size)
    clear b3
    go_wp2_with fail
    go_ret
    exact ⟨rfl, HB3.out⟩
  · have HA : Hid (SaysM w 7 #[.string p, .string q] (.tuple #[.string ⟨(tell N a).toArray⟩, .int .i64 0])) := compose_says hN hN2 hT hp hq rfl rfl h ⟨_, _, rfl⟩
    rcases bothA_cases hN (compose_makes N) q.data.toList r.data.toList with ⟨er, her, hlt, h2⟩ | ⟨Q', R, b, rQ', rR, hb, tQ', tR, tb, h2⟩
    · have HB : Hid (SaysM w 7 #[.string q, .string r] (.tuple #[.string ByteArray.empty, .int .i64 er])) := compose_says hN hN2 hT hq hr rfl rfl h2 ⟨_, _, rfl⟩
      have hbe : ((er : Int) != 0) = true := by rw [bne_iff_ne]; omega
      clear hT h h2 rP rQ ha tP tQ ta
      generalize (⟨(tell N a).toArray⟩ : ByteArray) = tx at *
      go_enter Tryd.func5, Tryd.ntmps5
      go_wp2_with fail
      refine Calls.mono (H1.out w (Below.refl _ _)) ?_
      rintro e w1 ⟨rfl, b1⟩
      have HB1 : Hid (Below w.heap.size w w1) := b1
      clear b1
      go_wp2_with fail
      refine Calls.mono (HA.out w1 HB1.out) ?_
      rintro e w2 ⟨rfl, b2⟩
      have HB2 : Hid (Below w.heap.size w w2) := HB1.out.trans (b2.mono HB1.out.size)
      clear b2
      go_wp2_with fail
      refine Calls.mono (HB.out w2 HB2.out) ?_
      rintro e w3 ⟨rfl, b3⟩
      have HB3 : Hid (Below w.heap.size w w3) := HB2.out.trans (b3.mono HB2.out.size)
      clear b3
      go_wp2_with fail
      go_ret
      exact ⟨rfl, HB3.out⟩
    · have HB : Hid (SaysM w 7 #[.string q, .string r] (.tuple #[.string ⟨(tell N b).toArray⟩, .int .i64 0])) := compose_says hN hN2 hT hq hr rfl rfl h2 ⟨_, _, rfl⟩
      have eQ : Q' = Q := by rw [rQ] at rQ'; exact (Except.ok.inj rQ').symm
      subst eQ
      rcases bothA_cases hN (compose_makes N) (tell N a) r.data.toList with ⟨er, her, hlt, h3⟩ | ⟨A', R', c, rA', rR', hc, tA', tR', tc, h3⟩
      · have HC : Hid (SaysM w 7 #[.string ⟨(tell N a).toArray⟩, .string r] (.tuple #[.string ByteArray.empty, .int .i64 er])) := compose_says hN hN2 hT (told_small ta) hr rfl rfl h3 ⟨_, _, rfl⟩
        have hbe : ((er : Int) != 0) = true := by rw [bne_iff_ne]; omega
        have hform : ∃ (s : ByteArray) (ef : Nat), bothA N (composedP N) p.data.toList (tell N b) = #[.string s, .int .i64 ef] := by
          rcases bothA_cases hN (compose_makes N) p.data.toList (tell N b) with ⟨er, _, _, h⟩ | ⟨_, _, _, _, _, _, _, _, _, h⟩
          · exact ⟨_, _, h⟩
          · exact ⟨_, 0, h⟩
        obtain ⟨s, ef, hf⟩ := hform
        have HD : Hid (SaysM w 7 #[.string p, .string ⟨(tell N b).toArray⟩] (.tuple #[.string s, .int .i64 ef])) := compose_says hN hN2 hT hp (told_small tb) rfl rfl hf ⟨_, _, rfl⟩
        clear hT h h2 h3 hf rP rQ ha tP tQ ta rQ' rR hb tQ' tR tb
        generalize (⟨(tell N a).toArray⟩ : ByteArray) = tx at *
        generalize (⟨(tell N b).toArray⟩ : ByteArray) = ty at *
        go_enter Tryd.func5, Tryd.ntmps5
        go_wp2_with fail
        refine Calls.mono (H1.out w (Below.refl _ _)) ?_
        rintro e w1 ⟨rfl, b1⟩
        have HB1 : Hid (Below w.heap.size w w1) := b1
        clear b1
        go_wp2_with fail
        refine Calls.mono (HA.out w1 HB1.out) ?_
        rintro e w2 ⟨rfl, b2⟩
        have HB2 : Hid (Below w.heap.size w w2) := HB1.out.trans (b2.mono HB1.out.size)
        clear b2
        go_wp2_with fail
        refine Calls.mono (HB.out w2 HB2.out) ?_
        rintro e w3 ⟨rfl, b3⟩
        have HB3 : Hid (Below w.heap.size w w3) := HB2.out.trans (b3.mono HB2.out.size)
        clear b3
        go_wp2_with fail
        refine Calls.mono (HC.out w3 HB3.out) ?_
        rintro e w4 ⟨rfl, b4⟩
        have HB4 : Hid (Below w.heap.size w w4) := HB3.out.trans (b4.mono HB3.out.size)
        clear b4
        go_wp2_with fail
        refine Calls.mono (HD.out w4 HB4.out) ?_
        rintro e w5 ⟨rfl, b5⟩
        have HB5 : Hid (Below w.heap.size w w5) := HB4.out.trans (b5.mono HB4.out.size)
        clear b5
        go_wp2_with fail
        go_ret
        exact ⟨rfl, HB5.out⟩
      · have HC : Hid (SaysM w 7 #[.string ⟨(tell N a).toArray⟩, .string r] (.tuple #[.string ⟨(tell N c).toArray⟩, .int .i64 0])) := compose_says hN hN2 hT (told_small ta) hr rfl rfl h3 ⟨_, _, rfl⟩
        have eA : A' = a := by rw [ta.again hN] at rA'; exact (Except.ok.inj rA').symm
        have eR : R' = R := by rw [rR] at rR'; exact (Except.ok.inj rR').symm
        subst eA eR
        rcases bothA_cases hN (compose_makes N) p.data.toList (tell N b) with ⟨er, her, hlt, h4⟩ | ⟨P', B', d, rP', rB', hd, tP', tB', td, h4⟩
        · have HD : Hid (SaysM w 7 #[.string p, .string ⟨(tell N b).toArray⟩] (.tuple #[.string ByteArray.empty, .int .i64 er])) := compose_says hN hN2 hT hp (told_small tb) rfl rfl h4 ⟨_, _, rfl⟩
          have hbe : ((er : Int) != 0) = true := by rw [bne_iff_ne]; omega
          clear hT h h2 h3 h4 rP rQ ha tP tQ ta rQ' rR hb tQ' tR tb rA' rR' hc tA' tR' tc
          generalize (⟨(tell N A').toArray⟩ : ByteArray) = tx at *
          generalize (⟨(tell N b).toArray⟩ : ByteArray) = ty at *
          generalize (⟨(tell N c).toArray⟩ : ByteArray) = tz at *
          go_enter Tryd.func5, Tryd.ntmps5
          go_wp2_with fail
          refine Calls.mono (H1.out w (Below.refl _ _)) ?_
          rintro e w1 ⟨rfl, b1⟩
          have HB1 : Hid (Below w.heap.size w w1) := b1
          clear b1
          go_wp2_with fail
          refine Calls.mono (HA.out w1 HB1.out) ?_
          rintro e w2 ⟨rfl, b2⟩
          have HB2 : Hid (Below w.heap.size w w2) := HB1.out.trans (b2.mono HB1.out.size)
          clear b2
          go_wp2_with fail
          refine Calls.mono (HB.out w2 HB2.out) ?_
          rintro e w3 ⟨rfl, b3⟩
          have HB3 : Hid (Below w.heap.size w w3) := HB2.out.trans (b3.mono HB2.out.size)
          clear b3
          go_wp2_with fail
          refine Calls.mono (HC.out w3 HB3.out) ?_
          rintro e w4 ⟨rfl, b4⟩
          have HB4 : Hid (Below w.heap.size w w4) := HB3.out.trans (b4.mono HB3.out.size)
          clear b4
          go_wp2_with fail
          refine Calls.mono (HD.out w4 HB4.out) ?_
          rintro e w5 ⟨rfl, b5⟩
          have HB5 : Hid (Below w.heap.size w w5) := HB4.out.trans (b5.mono HB4.out.size)
          clear b5
          go_wp2_with fail
          go_ret
          exact ⟨rfl, HB5.out⟩
        · have eP : P' = P := by rw [rP] at rP'; exact (Except.ok.inj rP').symm
          have eB : B' = b := by rw [tb.again hN] at rB'; exact (Except.ok.inj rB').symm
          subst eP eB
          have ecd : c = d := composed_three N P' Q' R' A' B' c d tP.good tQ.good tR.good ha hb hc hd
          subst ecd
          have HD : Hid (SaysM w 7 #[.string p, .string ⟨(tell N B').toArray⟩] (.tuple #[.string ⟨(tell N c).toArray⟩, .int .i64 0])) := compose_says hN hN2 hT hp (told_small tb) rfl rfl h4 ⟨_, _, rfl⟩
          clear hT h h2 h3 h4 rP rQ ha tP tQ ta rQ' rR hb tQ' tR tb rA' rR' hc tA' tR' tc rP' rB' hd tP' tB' td
          generalize (⟨(tell N A').toArray⟩ : ByteArray) = tx at *
          generalize (⟨(tell N B').toArray⟩ : ByteArray) = ty at *
          generalize (⟨(tell N c).toArray⟩ : ByteArray) = tz at *
          go_enter Tryd.func5, Tryd.ntmps5
          go_wp2_with fail
          refine Calls.mono (H1.out w (Below.refl _ _)) ?_
          rintro e w1 ⟨rfl, b1⟩
          have HB1 : Hid (Below w.heap.size w w1) := b1
          clear b1
          go_wp2_with fail
          refine Calls.mono (HA.out w1 HB1.out) ?_
          rintro e w2 ⟨rfl, b2⟩
          have HB2 : Hid (Below w.heap.size w w2) := HB1.out.trans (b2.mono HB1.out.size)
          clear b2
          go_wp2_with fail
          refine Calls.mono (HB.out w2 HB2.out) ?_
          rintro e w3 ⟨rfl, b3⟩
          have HB3 : Hid (Below w.heap.size w w3) := HB2.out.trans (b3.mono HB2.out.size)
          clear b3
          go_wp2_with fail
          refine Calls.mono (HC.out w3 HB3.out) ?_
          rintro e w4 ⟨rfl, b4⟩
          have HB4 : Hid (Below w.heap.size w w4) := HB3.out.trans (b4.mono HB3.out.size)
          clear b4
          go_wp2_with fail
          refine Calls.mono (HD.out w4 HB4.out) ?_
          rintro e w5 ⟨rfl, b5⟩
          have HB5 : Hid (Below w.heap.size w w5) := HB4.out.trans (b5.mono HB4.out.size)
          clear b5
          go_wp2_with fail
          go_ret
          exact ⟨rfl, HB5.out⟩
end Go.Proofs.YtmleekpghdfdgabDoor
