/- Plain facts on reading: every value that is read is counted, and something is left behind. -/
import Derived.Test.YtaogilpkeeigoaaGreatDoorDocQuote
import Derived.Test.YtaogilpkeeigoaaGreatDoorDocNum
namespace Go.Proofs.YtaogilpkeeigoaaGreatDoor
set_option linter.unusedVariables false
set_option linter.unusedSimpArgs false
/-- a reader that counts on -/
def Counts {σ : Type} (one : σ → Nat → Bs → Except Nat (σ × Nat × Bs)) : Prop := ∀ s k r s' k' r', one s k r = .ok (s', k', r') → k ≤ k'
theorem rowGo_counts {σ : Type} {z : UInt8} {one : σ → Nat → Bs → Except Nat (σ × Nat × Bs)} (h : Counts one) : ∀ (f : Nat) (s : σ) (k : Nat) (r : Bs) (s' : σ) (k' : Nat) (r' : Bs), rowGo z one f s k r = .ok (s', k', r') → k ≤ k'
  | 0, s, k, r, s', k', r', e => by simp [rowGo] at e
  | f + 1, s, k, r, s', k', r', e => by
    rw [rowGo] at e
    cases ho : one s k r with
    | error er => rw [ho] at e; cases e
    | ok p =>
      obtain ⟨s1, k1, r1⟩ := p
      have h1 := h s k r s1 k1 r1 ho
      rw [ho] at e
      simp only [] at e
      split at e
      · cases e; exact h1
      · split at e
        · exact Nat.le_trans h1 (rowGo_counts h f s1 k1 _ s' k' r' e)
        · cases e
theorem row_counts {σ : Type} {z : UInt8} {one : σ → Nat → Bs → Except Nat (σ × Nat × Bs)} (h : Counts one) (s : σ) (k : Nat) (r : Bs) (s' : σ) (k' : Nat) (r' : Bs) (e : row z one s k r = .ok (s', k', r')) : k ≤ k' := by
  unfold row at e
  split at e
  · cases e; exact Nat.le_refl _
  · exact rowGo_counts h _ _ _ _ _ _ _ e
theorem value_counts : ∀ (n : Nat) (k : Nat) (r : Bs) (j : J n) (k' : Nat) (r' : Bs), value n k r = .ok (j, k', r') → k < k'
  | 0, k, r, j, k', r', e => by
    rw [value] at e
    split at e
    · cases e
    · unfold leafAt at e
      cases hl : leafE (skip r) with
      | error er => rw [hl] at e; cases e
      | ok p => rw [hl] at e; cases e; omega
  | n + 1, k, r, j, k', r', e => by
    rw [value] at e
    split at e
    · cases e
    · split at e
      · cases hr : row 93 (oneItem (value n)) [] (k + 1) (skip r) with
        | error er => rw [hr] at e; cases e
        | ok p =>
          obtain ⟨s1, k1, r1⟩ := p
          rw [hr] at e
          cases e
          have := row_counts (one := oneItem (value n)) (fun s k r s' k' r' ho => by
            unfold oneItem at ho
            cases hv : value n k r with
            | error er => rw [hv] at ho; cases ho
            | ok p =>
              obtain ⟨v, k1, r1⟩ := p
              rw [hv] at ho
              cases ho
              exact Nat.le_of_lt (value_counts n k r v _ _ hv)) _ _ _ _ _ _ hr
          omega
      · split at e
        · cases hr : row 125 (oneField (value n)) [] (k + 1) (skip r) with
          | error er => rw [hr] at e; cases e
          | ok p =>
            obtain ⟨s1, k1, r1⟩ := p
            rw [hr] at e
            cases e
            have := row_counts (one := oneField (value n)) (fun s k r s' k' r' ho => by
              unfold oneField at ho
              cases hn : nameE s r with
              | error er => rw [hn] at ho; cases ho
              | ok p =>
                obtain ⟨nm, r1⟩ := p
                rw [hn] at ho
                simp only [] at ho
                cases hv : value n k r1 with
                | error er => rw [hv] at ho; cases ho
                | ok p =>
                  obtain ⟨v, k1, r2⟩ := p
                  rw [hv] at ho
                  cases ho
                  exact Nat.le_of_lt (value_counts n k r1 v _ _ hv)) _ _ _ _ _ _ hr
            omega
        · unfold leafAt at e
          cases hl : leafE (skip r) with
          | error er => rw [hl] at e; cases e
          | ok p => rw [hl] at e; cases e; omega
end Go.Proofs.YtaogilpkeeigoaaGreatDoor
