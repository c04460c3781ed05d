/- The law MergeMakes over this translation: it answers true at every two texts, and leaves old memory alone. -/
import Derived.Test.YtmleekpghdfdgaaGreatDoorG3
import Derived.Test.YtmleekpghdfdgaaGreatDoorG1
import Derived.Test.YtmleekpghdfdgaaGreatDoorG2
namespace Go.Proofs.YtmleekpghdfdgaaGreatDoor
open Go.RowKit
set_option linter.unusedVariables false
set_option linter.unusedSimpArgs false
theorem rd20_read {N : Nat} (hN : 20 ≤ N) {s : Bs} {D : J N} (h : rd20 N s = .ok D) : ∃ j, read s = .ok j ∧ tell 10 j = tell N D ∧ kindJ 10 j = kindJ N D := by
  unfold rd20 at h
  cases hr : read s with
  | error e => rw [hr] at h; cases h
  | ok j =>
    rw [hr] at h
    have e : lift 10 N j = D := Except.ok.inj (show Except.ok (lift 10 N j) = (Except.ok D : Except Nat (J N)) from h)
    subst e
    have hs := lift_said 10 N j (Nat.le_trans (depth_bound 10 j) (by omega))
    exact ⟨j, rfl, hs.1.symm, hs.2.2.2.symm⟩
theorem rd20_wrong {N : Nat} {s : Bs} {e : Nat} (h : rd20 N s = .error e) : read s = .error e := by
  unfold rd20 at h
  cases hr : read s with
  | error e' =>
    rw [hr] at h
    exact congrArg _ (Except.error.inj (show (Except.error e' : Except Nat (J N)) = .error e from h))
  | ok j => rw [hr] at h; cases h
theorem read_an : read [123, 34, 97, 34, 58, 110, 117, 108, 108, 125] = .ok (Sum.inr (Sum.inr [([97], Sum.inl none)])) := by rfl
theorem diff_oa {N : Nat} (hN : 20 ≤ N) : bothA N (diffR N) [123, 125] [123, 34, 97, 34, 58, 110, 117, 108, 108, 125] = #[.string ByteArray.empty, .int .i64 9] := by
  obtain ⟨n, rfl⟩ : ∃ n, N = n + 1 + 1 := ⟨N - 2, by omega⟩
  have h : betweenP (n + 1 + 1) (some (Sum.inr (Sum.inr []))) (Sum.inr (Sum.inr [([97], Sum.inl none)])) = .error 9 := by
    simp [betweenP, meetP, meetF, lowName, takeV, ofDz, sameO, isNullJ, objE, fieldsP]
  unfold bothA
  rw [rd20_ok read_o, rd20_ok read_an]
  have e1 : lift 10 (n + 1 + 1) (Sum.inr (Sum.inr [])) = (Sum.inr (Sum.inr []) : J (n + 1 + 1)) := rfl
  have e2 : lift 10 (n + 1 + 1) (Sum.inr (Sum.inr [([97], Sum.inl none)])) = (Sum.inr (Sum.inr [([97], Sum.inl none)]) : J (n + 1 + 1)) := rfl
  have h' : diffR (n + 1 + 1) (lift 10 (n + 1 + 1) (Sum.inr (Sum.inr []))) (lift 10 (n + 1 + 1) (Sum.inr (Sum.inr [([97], Sum.inl none)]))) = .error 9 := by
    rw [e1, e2]
    exact h
  simp only [h']
  rfl
set_option maxRecDepth 100000 in
set_option maxHeartbeats 4000000 in
theorem makes_walk (N : Nat) (hN : 20 ≤ N) (hN2 : N ≤ 1000) (a b : ByteArray) (w : World) (ha : a.size ≤ maxLen) (hb : b.size ≤ maxLen) (hT : Tab w.heap.size w) :
    Calls Tryz.prog 8 #[.string a, .string b] w fun e w' => e = .returned (.bool true) ∧ Below w.heap.size w w' := by
  have H1 : Hid (SaysM w 27 #[.string ⟨#[123, 125]⟩, .string ⟨#[123, 34, 97, 34, 58, 110, 117, 108, 108, 125]⟩] (.tuple #[.string ByteArray.empty, .int .i64 9])) := diff_says hN hN2 hT (few [123, 125] (by decide)) (few [123, 34, 97, 34, 58, 110, 117, 108, 108, 125] (by decide)) rfl rfl (diff_oa hN) ⟨_, _, rfl⟩
  rcases bothA_cases hN (diff_makes N) a.data.toList b.data.toList with ⟨er, her, hlt, h⟩ | ⟨A, B, j, rA, rB, hj, tA, tB, tj, h⟩
  · have HA : Hid (SaysM w 27 #[.string a, .string b] (.tuple #[.string ByteArray.empty, .int .i64 er])) := diff_says hN hN2 hT ha hb rfl rfl h ⟨_, _, rfl⟩
    have hbe : ((er : Int) != 0) = true := by rw [bne_iff_ne]; omega
    clear hT h
    go_enter Tryz.func8, Tryz.ntmps8
    go_wp2_with fail
    refine Calls.mono (HA.out w (Below.refl _ _)) ?_
    rintro e w1 ⟨rfl, b1⟩
    have HB1 : Hid (Below w.heap.size w w1) := b1
    clear b1
    go_wp2_with fail
    refine Calls.mono (H1.out w1 HB1.out) ?_
    rintro e w2 ⟨rfl, b2⟩
    have HB2 : Hid (Below w.heap.size w w2) := HB1.out.trans (b2.mono HB1.out.size)
    clear b2
    go_wp2_with fail
    go_ret
    exact ⟨rfl, HB2.out⟩
  · have HA : Hid (SaysM w 27 #[.string a, .string b] (.tuple #[.string ⟨(tell N j).toArray⟩, .int .i64 0])) := diff_says hN hN2 hT ha hb rfl rfl h ⟨_, _, rfl⟩
    have hm : mergedP N (some A) j = B := makes_law N (some A) B j (fun x hx => by cases hx; exact tA) tB hj
    have hag : bothA N (applyR N) a.data.toList (tell N j) = #[.string ⟨(tell N B).toArray⟩, .int .i64 0] := by
      unfold bothA
      rw [rA, tj.again hN]
      show toldE N (mergedP N (some A) j) = _
      rw [hm]
      exact tB.told
    have HU : Hid (SaysM w 25 #[.string a, .string ⟨(tell N j).toArray⟩] (.tuple #[.string ⟨(tell N B).toArray⟩, .int .i64 0])) := apply_says hN hN2 hT ha (told_small tj) rfl rfl hag ⟨_, _, rfl⟩
    obtain ⟨i, hi, htl, _⟩ := rd20_read hN rB
    have HC : Hid (Says w 31 #[.string b] (.tuple #[.string ⟨(tell N B).toArray⟩, .bool true])) := keep_ok hT hb rfl hi htl.symm
    clear hT h hj hag rA rB tA tB tj hm hi htl
    generalize (⟨(tell N j).toArray⟩ : ByteArray) = t at *
    generalize (⟨(tell N B).toArray⟩ : ByteArray) = u at *
    go_enter Tryz.func8, Tryz.ntmps8
    go_wp2_with fail
    refine Calls.mono (HA.out w (Below.refl _ _)) ?_
    rintro e w1 ⟨rfl, b1⟩
    have HB1 : Hid (Below w.heap.size w w1) := b1
    clear b1
    go_wp2_with fail
    refine Calls.mono (H1.out w1 HB1.out) ?_
    rintro e w2 ⟨rfl, b2⟩
    have HB2 : Hid (Below w.heap.size w w2) := HB1.out.trans (b2.mono HB1.out.size)
    clear b2
    go_wp2_with fail
    refine Calls.mono (HC.out w2 HB2.out) ?_
    rintro e w3 ⟨rfl, b3⟩
    have HB3 : Hid (Below w.heap.size w w3) := HB2.out.trans (b3.mono HB2.out.size)
    clear b3
    go_wp2_with fail
    refine Calls.mono (HU.out w3 HB3.out) ?_
    rintro e w4 ⟨rfl, b4⟩
    have HB4 : Hid (Below w.heap.size w w4) := HB3.out.trans (b4.mono HB3.out.size)
    clear b4
    go_wp2_with fail
    go_ret
    exact ⟨rfl, HB4.out⟩
end Go.Proofs.YtmleekpghdfdgaaGreatDoor
