/- The law MergeNothing over this translation: it answers true at every text, and leaves old memory alone. -/
import Derived.Test.YtmleekpghdfdgaaGreatDoorG3
import Derived.Test.YtmleekpghdfdgaaGreatDoorG1
import Derived.Test.YtmleekpghdfdgaaGreatDoorG2
namespace Go.Proofs.YtmleekpghdfdgaaGreatDoor
open Go.RowKit
set_option linter.unusedVariables false
set_option linter.unusedSimpArgs false
theorem rd20_read {N : Nat} (hN : 20 ≤ N) {s : Bs} {D : J N} (h : rd20 N s = .ok D) : ∃ j, read s = .ok j ∧ tell 10 j = tell N D ∧ kindJ 10 j = kindJ N D := by
  unfold rd20 at h
  cases hr : read s with
  | error e => rw [hr] at h; cases h
  | ok j =>
    rw [hr] at h
    have e : lift 10 N j = D := Except.ok.inj (show Except.ok (lift 10 N j) = (Except.ok D : Except Nat (J N)) from h)
    subst e
    have hs := lift_said 10 N j (Nat.le_trans (depth_bound 10 j) (by omega))
    exact ⟨j, rfl, hs.1.symm, hs.2.2.2.symm⟩
theorem rd20_wrong {N : Nat} {s : Bs} {e : Nat} (h : rd20 N s = .error e) : read s = .error e := by
  unfold rd20 at h
  cases hr : read s with
  | error e' =>
    rw [hr] at h
    exact congrArg _ (Except.error.inj (show (Except.error e' : Except Nat (J N)) = .error e from h))
  | ok j => rw [hr] at h; cases h
theorem told_o {n : Nat} : toldE (n + 1) (Sum.inr (Sum.inr [])) = #[.string ⟨#[123, 125]⟩, .int .i64 0] := by rfl
theorem kind_obj : ∀ (n : Nat) (j : J n), isObjJ n j = false → kindJ n j ≠ 6 ∧ kindJ n j < 100
  | 0, none, _ => (by decide : (1 : Nat) ≠ 6 ∧ 1 < 100)
  | 0, some (Sum.inl b), _ => (by decide : (2 : Nat) ≠ 6 ∧ 2 < 100)
  | 0, some (Sum.inr (Sum.inl i)), _ => (by decide : (3 : Nat) ≠ 6 ∧ 3 < 100)
  | 0, some (Sum.inr (Sum.inr s)), _ => (by decide : (4 : Nat) ≠ 6 ∧ 4 < 100)
  | _ + 1, Sum.inl none, _ => (by decide : (1 : Nat) ≠ 6 ∧ 1 < 100)
  | _ + 1, Sum.inl (some (Sum.inl b)), _ => (by decide : (2 : Nat) ≠ 6 ∧ 2 < 100)
  | _ + 1, Sum.inl (some (Sum.inr (Sum.inl i))), _ => (by decide : (3 : Nat) ≠ 6 ∧ 3 < 100)
  | _ + 1, Sum.inl (some (Sum.inr (Sum.inr s))), _ => (by decide : (4 : Nat) ≠ 6 ∧ 4 < 100)
  | _ + 1, Sum.inr (Sum.inl xs), _ => (by decide : (5 : Nat) ≠ 6 ∧ 5 < 100)
  | _ + 1, Sum.inr (Sum.inr fs), h => by cases h
set_option maxRecDepth 100000 in
set_option maxHeartbeats 4000000 in
theorem nothing_walk (N : Nat) (hN : 20 ≤ N) (hN2 : N ≤ 1000) (a : ByteArray) (w : World) (ha : a.size ≤ maxLen) (hT : Tab w.heap.size w) :
    Calls Tryz.prog 7 #[.string a] w fun e w' => e = .returned (.bool true) ∧ Below w.heap.size w w' := by
  cases hr : rd20 N a.data.toList with
  | error er =>
    have hre := rd20_wrong hr
    have HC : Hid (Says w 31 #[.string a] (.tuple #[.string ByteArray.empty, .bool false])) := keep_err hT ha rfl hre
    have HK : Hid (Says w 12 #[.string a] (.tuple #[.int .i64 0, .int .i64 er])) := kind_err ha rfl hre
    have e1 : bothA N (applyR N) a.data.toList [123, 125] = #[.string ByteArray.empty, .int .i64 er] := by unfold bothA; rw [hr]
    have e2 : bothA N (diffR N) a.data.toList a.data.toList = #[.string ByteArray.empty, .int .i64 er] := by unfold bothA; rw [hr]
    have HA : Hid (SaysM w 25 #[.string a, .string ⟨#[123, 125]⟩] (.tuple #[.string ByteArray.empty, .int .i64 er])) := apply_says hN hN2 hT ha (few [123, 125] (by decide)) rfl rfl e1 ⟨_, _, rfl⟩
    have HD : Hid (SaysM w 27 #[.string a, .string a] (.tuple #[.string ByteArray.empty, .int .i64 er])) := diff_says hN hN2 hT ha ha rfl rfl e2 ⟨_, _, rfl⟩
    clear hT hr hre e1 e2
    go_enter Tryz.func7, Tryz.ntmps7
    go_wp2_with fail
    refine Calls.mono (HC.out w (Below.refl _ _)) ?_
    rintro e w1 ⟨rfl, b1⟩
    have HB1 : Hid (Below w.heap.size w w1) := b1
    clear b1
    go_wp2_with fail
    refine Calls.mono (HK.out w1 HB1.out) ?_
    rintro e w2 ⟨rfl, b2⟩
    have HB2 : Hid (Below w.heap.size w w2) := HB1.out.trans (b2.mono HB1.out.size)
    clear b2
    go_wp2_with fail
    refine Calls.mono (HA.out w2 HB2.out) ?_
    rintro e w3 ⟨rfl, b3⟩
    have HB3 : Hid (Below w.heap.size w w3) := HB2.out.trans (b3.mono HB2.out.size)
    clear b3
    go_wp2_with fail
    refine Calls.mono (HD.out w3 HB3.out) ?_
    rintro e w4 ⟨rfl, b4⟩
    have HB4 : Hid (Below w.heap.size w w4) := HB3.out.trans (b4.mono HB3.out.size)
    clear b4
    go_wp2_with fail
    go_ret
    exact ⟨rfl, HB4.out⟩
  | ok A =>
    obtain ⟨n, rfl⟩ : ∃ n, N = n + 1 := ⟨N - 1, by omega⟩
    have tA := rd20_told hN hr
    obtain ⟨i, hi, htl, hk⟩ := rd20_read hN hr
    have HC : Hid (Says w 31 #[.string a] (.tuple #[.string ⟨(tell (n + 1) A).toArray⟩, .bool true])) := keep_ok hT ha rfl hi htl.symm
    have HK : Hid (Says w 12 #[.string a] (.tuple #[.int .i64 (kindJ (n + 1) A), .int .i64 0])) := by
      have := kind_ok (w := w) ha rfl hi
      rw [hk] at this
      exact this
    have ro : rd20 (n + 1) [123, 125] = .ok (Sum.inr (Sum.inr [])) := rd20_ok read_o
    have hm := nothing_merged (some A) (fun x hx => by cases hx; exact tA.good)
    cases hj : isObjJ (n + 1) A with
    | false =>
      have e1 : bothA (n + 1) (applyR (n + 1)) a.data.toList [123, 125] = #[.string ⟨#[123, 125]⟩, .int .i64 0] := by
        unfold bothA
        rw [hr, ro]
        show toldE (n + 1) (mergedP (n + 1) (some A) (Sum.inr (Sum.inr []))) = _
        rw [hm, fields_flat hj]
        exact told_o
      have e2 : bothA (n + 1) (diffR (n + 1)) a.data.toList a.data.toList = #[.string ⟨(tell (n + 1) A).toArray⟩, .int .i64 0] := by
        have hd : diffR (n + 1) A A = .ok A := between_flatP (some A) hj
        unfold bothA
        rw [hr]
        simp only [hd]
        exact tA.told
      have HA : Hid (SaysM w 25 #[.string a, .string ⟨#[123, 125]⟩] (.tuple #[.string ⟨#[123, 125]⟩, .int .i64 0])) := apply_says hN hN2 hT ha (few [123, 125] (by decide)) rfl rfl e1 ⟨_, _, rfl⟩
      have HD : Hid (SaysM w 27 #[.string a, .string a] (.tuple #[.string ⟨(tell (n + 1) A).toArray⟩, .int .i64 0])) := diff_says hN hN2 hT ha ha rfl rfl e2 ⟨_, _, rfl⟩
      have hk2 := kind_obj (n + 1) A hj
      clear hT hr tA hi htl hk ro hm e1 e2 hj
      generalize (⟨(tell (n + 1) A).toArray⟩ : ByteArray) = t at *
      generalize kindJ (n + 1) A = k at *
      have hk3 : ((k : Int) != 6) = true := by rw [bne_iff_ne]; omega
      clear hk2
      go_enter Tryz.func7, Tryz.ntmps7
      go_wp2_with fail
      refine Calls.mono (HC.out w (Below.refl _ _)) ?_
      rintro e w1 ⟨rfl, b1⟩
      have HB1 : Hid (Below w.heap.size w w1) := b1
      clear b1
      go_wp2_with fail
      refine Calls.mono (HK.out w1 HB1.out) ?_
      rintro e w2 ⟨rfl, b2⟩
      have HB2 : Hid (Below w.heap.size w w2) := HB1.out.trans (b2.mono HB1.out.size)
      clear b2
      go_wp2_with fail
      refine Calls.mono (HA.out w2 HB2.out) ?_
      rintro e w3 ⟨rfl, b3⟩
      have HB3 : Hid (Below w.heap.size w w3) := HB2.out.trans (b3.mono HB2.out.size)
      clear b3
      go_wp2_with fail
      refine Calls.mono (HD.out w3 HB3.out) ?_
      rintro e w4 ⟨rfl, b4⟩
      have HB4 : Hid (Below w.heap.size w w4) := HB3.out.trans (b4.mono HB3.out.size)
      clear b4
      go_wp2_with fail
      go_ret
      exact ⟨rfl, HB4.out⟩
    | true =>
      obtain ⟨fs, rfl⟩ := obj_of hj
      have e1 : bothA (n + 1) (applyR (n + 1)) a.data.toList [123, 125] = #[.string ⟨(tell (n + 1) (Sum.inr (Sum.inr fs))).toArray⟩, .int .i64 0] := by
        unfold bothA
        rw [hr, ro]
        show toldE (n + 1) (mergedP (n + 1) (some (Sum.inr (Sum.inr fs))) (Sum.inr (Sum.inr []))) = _
        rw [hm]
        exact tA.told
      have e2 : bothA (n + 1) (diffR (n + 1)) a.data.toList a.data.toList = #[.string ⟨#[123, 125]⟩, .int .i64 0] := by
        have hd : diffR (n + 1) (Sum.inr (Sum.inr fs)) (Sum.inr (Sum.inr fs)) = .ok (Sum.inr (Sum.inr [])) := nothing_other fs
        unfold bothA
        rw [hr]
        simp only [hd]
        exact told_o
      have HA : Hid (SaysM w 25 #[.string a, .string ⟨#[123, 125]⟩] (.tuple #[.string ⟨(tell (n + 1) (Sum.inr (Sum.inr fs))).toArray⟩, .int .i64 0])) := apply_says hN hN2 hT ha (few [123, 125] (by decide)) rfl rfl e1 ⟨_, _, rfl⟩
      have HD : Hid (SaysM w 27 #[.string a, .string a] (.tuple #[.string ⟨#[123, 125]⟩, .int .i64 0])) := diff_says hN hN2 hT ha ha rfl rfl e2 ⟨_, _, rfl⟩
      have HK' : Hid (Says w 12 #[.string a] (.tuple #[.int .i64 6, .int .i64 0])) := HK.out
      clear hT hr tA hi htl hk ro hm e1 e2 hj HK
      generalize (⟨(tell (n + 1) (Sum.inr (Sum.inr fs))).toArray⟩ : ByteArray) = t at *
      go_enter Tryz.func7, Tryz.ntmps7
      go_wp2_with fail
      refine Calls.mono (HC.out w (Below.refl _ _)) ?_
      rintro e w1 ⟨rfl, b1⟩
      have HB1 : Hid (Below w.heap.size w w1) := b1
      clear b1
      go_wp2_with fail
      refine Calls.mono (HK'.out w1 HB1.out) ?_
      rintro e w2 ⟨rfl, b2⟩
      have HB2 : Hid (Below w.heap.size w w2) := HB1.out.trans (b2.mono HB1.out.size)
      clear b2
      go_wp2_with fail
      refine Calls.mono (HA.out w2 HB2.out) ?_
      rintro e w3 ⟨rfl, b3⟩
      have HB3 : Hid (Below w.heap.size w w3) := HB2.out.trans (b3.mono HB2.out.size)
      clear b3
      go_wp2_with fail
      refine Calls.mono (HD.out w3 HB3.out) ?_
      rintro e w4 ⟨rfl, b4⟩
      have HB4 : Hid (Below w.heap.size w w4) := HB3.out.trans (b4.mono HB3.out.size)
      clear b4
      go_wp2_with fail
      go_ret
      exact ⟨rfl, HB4.out⟩
end Go.Proofs.YtmleekpghdfdgaaGreatDoor
