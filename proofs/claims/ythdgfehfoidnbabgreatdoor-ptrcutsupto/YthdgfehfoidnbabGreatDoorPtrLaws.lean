/- Plain facts for the laws of pointers: what is there, put there, changes nothing. -/
import Derived.Test.YthdgfehfoidnbabGreatDoorPtrPutTop
namespace Go.Proofs.YthdgfehfoidnbabGreatDoor
open Go.RowKit
set_option linter.unusedVariables false
set_option linter.unusedSimpArgs false
theorem putR_there {N : Nat} {D c G : J N} {L : List Bs} (hr : Rise N D) (h : getP N D L = some c) : putR N D L G = .ok (setP N D L (fun m => lift N m G)) := by
  unfold putR
  by_cases hL : L = []
  · rw [if_pos hL]
    subst hL
    have e : setP N D [] (fun m => lift N m G) = lift N N G := by cases N <;> rfl
    rw [e, lift_self]
  · rw [if_neg hL]
    obtain ⟨M, s, rfl⟩ : ∃ M s, L = M ++ [s] := ⟨L.dropLast, L.getLast hL, (List.dropLast_concat_getLast hL).symm⟩
    rw [List.dropLast_concat]
    have e : (M ++ [s]).getLast?.getD [] = s := by simp
    rw [e]
    exact change_put _ s M N D c hr h
theorem putR_same {N : Nat} {D c : J N} {L : List Bs} (hr : Rise N D) (h : getP N D L = some c) : putR N D L c = .ok D := by
  rw [putR_there hr h, set_get L N D c _ hr h]
  intro m c0 hm e
  show lift N m c = c0
  rw [← e, lift_lift _ _ _ _ (Nat.le_trans (depth_bound m c0) hm), lift_self]
theorem read_one : read [49] = .ok (leaf 10 (some (Sum.inr (Sum.inl 1)))) := by kernel_rfl
theorem steps_a : stepsE [47, 97] = .ok [[97]] := by kernel_rfl
theorem getP_leaf {N : Nat} (l : Leaf) (s : Bs) (r : List Bs) : getP N (leaf N l) (s :: r) = none := by
  cases N with
  | zero => rfl
  | succ n => rfl
theorem getA_one {N : Nat} : getA N [49] [47, 97] = #[.string ByteArray.empty, .int .i64 7] := by
  unfold getA
  rw [rd20_ok read_one, lift_leaf]
  simp only [steps_a, getP_leaf]
/-- what Get answers, in one form -/
theorem getA_cases (N : Nat) (hN : 20 ≤ N) (doc p : Bs) : (∃ er : Nat, er ≠ 0 ∧ er < 100 ∧ getA N doc p = #[.string ByteArray.empty, .int .i64 er]) ∨ ∃ D L c, rd20 N doc = .ok D ∧ stepsE p = .ok L ∧ getP N D L = some c ∧ Told20 N c ∧ getA N doc p = #[.string ⟨(tell N c).toArray⟩, .int .i64 0] := by
  unfold getA
  cases hd : rd20 N doc with
  | error e =>
    refine Or.inl ⟨e, ?_, ?_, rfl⟩
    · unfold rd20 at hd
      cases hr : read doc with
      | error e' =>
        rw [hr] at hd
        cases hd
        exact read_err hr
      | ok j => rw [hr] at hd; cases hd
    · unfold rd20 at hd
      cases hr : read doc with
      | error e' =>
        rw [hr] at hd
        cases hd
        rcases read_isErr hr with rfl | rfl | rfl | rfl <;> decide
      | ok j => rw [hr] at hd; cases hd
  | ok D =>
    simp only []
    cases hs : stepsE p with
    | error e =>
      refine Or.inl ⟨e, ?_, ?_, rfl⟩
      · unfold stepsE at hs
        split at hs
        · cases hs
        · split at hs
          · cases hs; decide
          · split at hs
            · cases hs; decide
            · cases hs
      · unfold stepsE at hs
        split at hs
        · cases hs
        · split at hs
          · cases hs; decide
          · split at hs
            · cases hs; decide
            · cases hs
    | ok L =>
      simp only []
      cases hg : getP N D L with
      | none => exact Or.inl ⟨7, by decide, by decide, rfl⟩
      | some c =>
        have hT := (rd20_told hN hd).get hg
        exact Or.inr ⟨D, L, c, rfl, rfl, hg, hT, hT.told⟩
theorem rd20_read {N : Nat} {doc : Bs} {D : J N} (hN : 20 ≤ N) (h : rd20 N doc = .ok D) : ∃ j, read doc = .ok j ∧ tell 10 j = tell N D := by
  unfold rd20 at h
  cases hr : read doc with
  | error e => rw [hr] at h; cases h
  | ok j =>
    rw [hr] at h
    have e : lift 10 N j = D := by
      have h' : Except.ok (lift 10 N j) = (Except.ok D : Except Nat (J N)) := h
      exact Except.ok.inj h'
    subst e
    exact ⟨j, rfl, (lift_said 10 N j (Nat.le_trans (depth_bound 10 j) (by omega))).1.symm⟩
end Go.Proofs.YthdgfehfoidnbabGreatDoor
