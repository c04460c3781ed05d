/- The plain law of GrantsMore: who may, may still, where one role and one bind more stand behind. -/
import Derived.Test.YtnjjlnhchfoigaaGrPlain
namespace Go.Proofs.Ytnjjlnhchfoigaa
set_option linter.unusedVariables false
theorem more_law (rs : List Ro) (bs : List Bi) (x : Ro) (y : Bi) (n : Bs) (gs : List Bs) (a : Ak) :
    (if whyMayI rs bs n gs a ≠ 0 ∨ whyMayI (rs ++ [x]) (bs ++ [y]) n gs a ≠ 0 then (!mayB rs bs n gs a && decide (whyMayI rs bs n gs a ≠ 0)) || !mayB (rs ++ [x]) (bs ++ [y]) n gs a
     else !mayB rs bs n gs a || mayB (rs ++ [x]) (bs ++ [y]) n gs a) = true := by
  by_cases h1 : whyMayI rs bs n gs a = 0
  · by_cases h2 : whyMayI (rs ++ [x]) (bs ++ [y]) n gs a = 0
    · rw [if_neg (by simp [h1, h2])]
      unfold mayB
      rw [decide_eq_true h1, decide_eq_true h2, Bool.true_and, Bool.true_and]
      cases h : allB (heldP rs bs n gs a.2.2.1) a with
      | false => rfl
      | true => rw [allB_mono (fun r hr => held_more x y hr) h]; rfl
    · rw [if_pos (Or.inr h2)]
      have : mayB (rs ++ [x]) (bs ++ [y]) n gs a = false := by unfold mayB; rw [decide_eq_false h2]; rfl
      rw [this]
      simp
  · rw [if_pos (Or.inl h1)]
    have : mayB rs bs n gs a = false := by unfold mayB; rw [decide_eq_false h1]; rfl
    rw [this, decide_eq_true h1]
    rfl
end Go.Proofs.Ytnjjlnhchfoigaa
