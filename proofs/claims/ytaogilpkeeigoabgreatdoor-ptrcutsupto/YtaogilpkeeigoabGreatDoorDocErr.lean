/- Plain facts on what goes wrong: no error is nothing; a document is never empty. -/
import Derived.Test.YtaogilpkeeigoabGreatDoorDocGood
namespace Go.Proofs.YtaogilpkeeigoabGreatDoor
set_option linter.unusedVariables false
set_option linter.unusedSimpArgs false
theorem leafE_err {r : Bs} {e : Nat} (h : leafE r = .error e) : e = eSyntax ∨ e = eLarge := by
  unfold leafE at h
  split at h
  · unfold word at h; split at h <;> cases h; exact Or.inl rfl
  · split at h
    · unfold word at h; split at h <;> cases h; exact Or.inl rfl
    · split at h
      · unfold word at h; split at h <;> cases h; exact Or.inl rfl
      · split at h
        · unfold textE at h
          cases hq : quoted r with
          | none => rw [hq] at h; cases h; exact Or.inl rfl
          | some p => rw [hq] at h; cases h
        · unfold number at h
          simp only [] at h
          generalize (if (hd r == 45) = true then r.tail else r) = r1 at h
          split at h
          · cases h; exact Or.inl rfl
          · split at h
            · cases h; exact Or.inl rfl
            · split at h
              · cases h; exact Or.inr rfl
              · cases h
theorem beginE_vals (n k : Nat) (r : Bs) : beginE n k r = 0 ∨ beginE n k r = eSyntax ∨ beginE n k r = eLarge ∨ beginE n k r = eDeep := by
  unfold beginE
  split
  · exact Or.inr (Or.inl rfl)
  · split
    · exact Or.inr (Or.inr (Or.inl rfl))
    · split
      · exact Or.inr (Or.inr (Or.inr rfl))
      · exact Or.inl rfl
def IsErr (e : Nat) : Prop := e = eSyntax ∨ e = eLarge ∨ e = eDeep ∨ e = eTwice
theorem rowGo_err {σ : Type} {z : UInt8} {one : σ → Nat → Bs → Except Nat (σ × Nat × Bs)} (h : ∀ s k r e, one s k r = .error e → IsErr e) : ∀ (f : Nat) (s : σ) (k : Nat) (r : Bs) (e : Nat), rowGo z one f s k r = .error e → IsErr e
  | 0, s, k, r, e, he => by
    simp [rowGo] at he
    exact Or.inl he.symm
  | f + 1, s, k, r, e, he => by
    rw [rowGo] at he
    cases ho : one s k r with
    | error er => rw [ho] at he; cases he; exact h s k r e ho
    | ok p =>
      obtain ⟨s1, k1, r1⟩ := p
      rw [ho] at he
      simp only [] at he
      split at he
      · cases he
      · split at he
        · exact rowGo_err h f s1 k1 _ e he
        · cases he; exact Or.inl rfl
theorem row_err {σ : Type} {z : UInt8} {one : σ → Nat → Bs → Except Nat (σ × Nat × Bs)} (h : ∀ s k r e, one s k r = .error e → IsErr e) (s : σ) (k : Nat) (r : Bs) (e : Nat) (he : row z one s k r = .error e) : IsErr e := by
  unfold row at he
  split at he
  · cases he
  · exact rowGo_err h _ _ _ _ _ he
theorem value_isErr : ∀ (n : Nat) (k : Nat) (r : Bs) (e : Nat), value n k r = .error e → IsErr e
  | 0, k, r, e, h => by
    rw [value] at h
    split at h
    · rename_i h0
      cases h
      rcases beginE_vals 0 k (skip r) with h1 | h1 | h1 | h1
      · exact absurd h1 h0
      · exact Or.inl h1
      · exact Or.inr (Or.inl h1)
      · exact Or.inr (Or.inr (Or.inl h1))
    · unfold leafAt at h
      cases hl : leafE (skip r) with
      | error er =>
        rw [hl] at h
        cases h
        rcases leafE_err hl with h1 | h1
        · exact Or.inl h1
        · exact Or.inr (Or.inl h1)
      | ok p => rw [hl] at h; cases h
  | n + 1, k, r, e, h => by
    rw [value] at h
    split at h
    · rename_i h0
      cases h
      rcases beginE_vals (n + 1) k (skip r) with h1 | h1 | h1 | h1
      · exact absurd h1 h0
      · exact Or.inl h1
      · exact Or.inr (Or.inl h1)
      · exact Or.inr (Or.inr (Or.inl h1))
    · split at h
      · cases hr : row 93 (oneItem (value n)) [] (k + 1) (skip r) with
        | error er =>
          rw [hr] at h
          cases h
          refine row_err (one := oneItem (value n)) (fun s k r e ho => ?_) _ _ _ _ hr
          unfold oneItem at ho
          cases hv : value n k r with
          | error er => rw [hv] at ho; cases ho; exact value_isErr n k r e hv
          | ok p => rw [hv] at ho; cases ho
        | ok p => rw [hr] at h; cases h
      · split at h
        · cases hr : row 125 (oneField (value n)) [] (k + 1) (skip r) with
          | error er =>
            rw [hr] at h
            cases h
            refine row_err (one := oneField (value n)) (fun s k r e ho => ?_) _ _ _ _ hr
            unfold oneField at ho
            cases hn : nameE s r with
            | error er =>
              rw [hn] at ho
              cases ho
              unfold nameE at hn
              cases hq : quoted (skip r) with
              | none => rw [hq] at hn; cases hn; exact Or.inl rfl
              | some p =>
                rw [hq] at hn
                simp only [] at hn
                split at hn
                · cases hn; exact Or.inr (Or.inr (Or.inr rfl))
                · split at hn
                  · cases hn
                  · cases hn; exact Or.inl rfl
            | ok p =>
              obtain ⟨nm, r1⟩ := p
              rw [hn] at ho
              simp only [] at ho
              cases hv : value n k r1 with
              | error er => rw [hv] at ho; cases ho; exact value_isErr n k r1 e hv
              | ok p => rw [hv] at ho; cases ho
          | ok p => rw [hr] at h; cases h
        · unfold leafAt at h
          cases hl : leafE (skip r) with
          | error er =>
            rw [hl] at h
            cases h
            rcases leafE_err hl with h1 | h1
            · exact Or.inl h1
            · exact Or.inr (Or.inl h1)
          | ok p => rw [hl] at h; cases h
theorem read_isErr {s : Bs} {e : Nat} (h : read s = .error e) : IsErr e := by
  unfold read at h
  split at h
  · cases h; exact Or.inr (Or.inl rfl)
  · cases hv : value 10 0 s with
    | error er => rw [hv] at h; cases h; exact value_isErr _ _ _ _ hv
    | ok p =>
      obtain ⟨j1, k1, r1⟩ := p
      rw [hv] at h
      simp only [] at h
      split at h
      · cases h
      · cases h; exact Or.inl rfl
theorem read_err {s : Bs} {e : Nat} (h : read s = .error e) : e ≠ 0 := by
  rcases read_isErr h with rfl | rfl | rfl | rfl <;> decide
theorem dec_ne (u : Nat) : Lib.decDigits u ≠ [] := by
  rw [Lib.decDigits]
  split <;> simp
theorem tellLeaf_ne (l : Leaf) : tellLeaf l ≠ [] := by
  match l with
  | none => simp [tellLeaf, nullB]
  | some (Sum.inl true) => simp [tellLeaf, trueB]
  | some (Sum.inl false) => simp [tellLeaf, falseB]
  | some (Sum.inr (Sum.inl i)) =>
    show Lib.itoa i ≠ []
    unfold Lib.itoa
    split
    · simp
    · exact dec_ne _
  | some (Sum.inr (Sum.inr s)) => simp [tellLeaf, quote]
theorem tell_ne : ∀ (n : Nat) (j : J n), tell n j ≠ []
  | 0, j => tellLeaf_ne j
  | _ + 1, Sum.inl l => tellLeaf_ne l
  | _ + 1, Sum.inr (Sum.inl xs) => List.cons_ne_nil _ _
  | _ + 1, Sum.inr (Sum.inr fs) => List.cons_ne_nil _ _
end Go.Proofs.YtaogilpkeeigoabGreatDoor
