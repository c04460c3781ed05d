/- Plain facts on values: which are within their bounds; how long their documents are. -/
import Derived.Test.YtaogilpkeeigoaaGreatDoorDocQuote
import Derived.Test.YtaogilpkeeigoaaGreatDoorDocNum
import Derived.Test.YtaogilpkeeigoaaGreatDoorOrder
namespace Go.Proofs.YtaogilpkeeigoaaGreatDoor
set_option linter.unusedVariables false
set_option linter.unusedSimpArgs false
def GoodLeaf : Leaf → Prop
  | some (Sum.inr (Sum.inl i)) => -1000000000000000000 < i ∧ i < 1000000000000000000
  | some (Sum.inr (Sum.inr s)) => ∀ c ∈ s, meant c = true
  | _ => True
/-- numbers of 18 digits, texts of bytes that may be, fields that rise -/
def Good : (n : Nat) → J n → Prop
  | 0, l => GoodLeaf l
  | _ + 1, Sum.inl l => GoodLeaf l
  | n + 1, Sum.inr (Sum.inl xs) => ∀ x ∈ xs, Good n x
  | n + 1, Sum.inr (Sum.inr fs) => Rising fs ∧ ∀ f ∈ fs, (∀ c ∈ f.1, meant c = true) ∧ Good n f.2
/-- numbers that fit -/
def FitLeaf : Leaf → Prop
  | some (Sum.inr (Sum.inl i)) => -1000000000000000000 < i ∧ i < 1000000000000000000
  | _ => True
def Fit : (n : Nat) → J n → Prop
  | 0, l => FitLeaf l
  | _ + 1, Sum.inl l => FitLeaf l
  | n + 1, Sum.inr (Sum.inl xs) => ∀ x ∈ xs, Fit n x
  | n + 1, Sum.inr (Sum.inr fs) => ∀ f ∈ fs, Fit n f.2
theorem fit_leaf {l : Leaf} (h : GoodLeaf l) : FitLeaf l := by
  rcases l with _ | b | i | s
  · trivial
  · trivial
  · exact h
  · trivial
theorem fit_of_good : ∀ (n : Nat) (j : J n), Good n j → Fit n j
  | 0, l, h => fit_leaf h
  | _ + 1, Sum.inl l, h => fit_leaf h
  | n + 1, Sum.inr (Sum.inl xs), h => fun x hx => fit_of_good n x (h x hx)
  | n + 1, Sum.inr (Sum.inr fs), h => fun f hf => fit_of_good n f.2 (h.2 f hf).2
theorem good_leaf {n : Nat} {l : Leaf} (h : GoodLeaf l) : Good n (leaf n l) := by
  cases n <;> exact h
theorem leafE_good {r : Bs} {l : Leaf} {r' : Bs} (h : leafE r = .ok (l, r')) : GoodLeaf l := by
  unfold leafE at h
  split at h
  · unfold word at h; split at h <;> cases h; trivial
  · split at h
    · unfold word at h; split at h <;> cases h; trivial
    · split at h
      · unfold word at h; split at h <;> cases h; trivial
      · split at h
        · unfold textE at h
          cases hq : quoted r with
          | none => rw [hq] at h; cases h
          | some p =>
            rw [hq] at h
            cases h
            exact (quoted_meant hq).1
        · unfold number at h
          simp only [] at h
          generalize (if (hd r == 45) = true then r.tail else r) = r1 at h
          split at h
          · cases h
          · split at h
            · cases h
            · split at h
              · cases h
              · rename_i h1 h2 h3
                cases h
                show -1000000000000000000 < numVal _ _ ∧ numVal _ _ < 1000000000000000000
                have hdg : ∀ c ∈ r1.takeWhile isDigit, isDigit c = true := fun c hc => by
                  have := List.all_takeWhile (p := isDigit) (l := r1)
                  rw [List.all_eq_true] at this
                  exact this c hc
                have hlt := decV_lt _ hdg
                have hle : 10 ^ (r1.takeWhile isDigit).length ≤ 10 ^ 18 := Nat.pow_le_pow_right (by decide) (by omega)
                have hb : decV (r1.takeWhile isDigit) < 1000000000000000000 := by omega
                unfold numVal
                split <;> omega
/-- what holds of all parts -/
theorem rowGo_all {σ : Type} {z : UInt8} {one : σ → Nat → Bs → Except Nat (σ × Nat × Bs)} {P : σ → Prop} (h : ∀ s k r s' k' r', P s → one s k r = .ok (s', k', r') → P s') : ∀ (f : Nat) (s : σ) (k : Nat) (r : Bs) (s' : σ) (k' : Nat) (r' : Bs), P s → rowGo z one f s k r = .ok (s', k', r') → P s'
  | 0, s, k, r, s', k', r', _, e => by simp [rowGo] at e
  | f + 1, s, k, r, s', k', r', hs, e => by
    rw [rowGo] at e
    cases ho : one s k r with
    | error er => rw [ho] at e; cases e
    | ok p =>
      obtain ⟨s1, k1, r1⟩ := p
      have h1 := h s k r s1 k1 r1 hs ho
      rw [ho] at e
      simp only [] at e
      split at e
      · cases e; exact h1
      · split at e
        · exact rowGo_all h f s1 k1 _ s' k' r' h1 e
        · cases e
theorem row_all {σ : Type} {z : UInt8} {one : σ → Nat → Bs → Except Nat (σ × Nat × Bs)} {P : σ → Prop} (h : ∀ s k r s' k' r', P s → one s k r = .ok (s', k', r') → P s') (s : σ) (k : Nat) (r : Bs) (s' : σ) (k' : Nat) (r' : Bs) (hs : P s) (e : row z one s k r = .ok (s', k', r')) : P s' := by
  unfold row at e
  split at e
  · cases e; exact hs
  · exact rowGo_all h _ _ _ _ _ _ _ hs e
theorem oneItem_ok {α : Type} {pv : Nat → Bs → Except Nat (α × Nat × Bs)} {s s' : List α} {k k' : Nat} {r r' : Bs} (h : oneItem pv s k r = .ok (s', k', r')) : ∃ v, pv k r = .ok (v, k', r') ∧ s' = s ++ [v] := by
  unfold oneItem at h
  cases hv : pv k r with
  | error er => rw [hv] at h; cases h
  | ok p =>
    obtain ⟨v, k1, r1⟩ := p
    rw [hv] at h
    cases h
    exact ⟨v, rfl, rfl⟩
theorem nameE_ok {α : Type} {fs : List (Bs × α)} {r nm r' : Bs} (h : nameE fs r = .ok (nm, r')) : ∃ q, quoted (skip r) = some (nm, q) ∧ (fs.any fun f => f.1 == nm) = false ∧ hd (skip q) = 58 ∧ r' = (skip q).tail := by
  unfold nameE at h
  cases hq : quoted (skip r) with
  | none => rw [hq] at h; cases h
  | some p =>
    rw [hq] at h
    simp only [] at h
    split at h
    · cases h
    · split at h
      · rename_i h1 h2
        cases h
        exact ⟨p.2, rfl, by rw [← Bool.not_eq_true]; exact h1, h2, rfl⟩
      · cases h
theorem oneField_ok {α : Type} {pv : Nat → Bs → Except Nat (α × Nat × Bs)} {s s' : List (Bs × α)} {k k' : Nat} {r r' : Bs} (h : oneField pv s k r = .ok (s', k', r')) : ∃ nm v r1, nameE s r = .ok (nm, r1) ∧ pv k r1 = .ok (v, k', r') ∧ s' = insertAt s nm v := by
  unfold oneField at h
  cases hn : nameE s r with
  | error er => rw [hn] at h; cases h
  | ok p =>
    obtain ⟨nm, r1⟩ := p
    rw [hn] at h
    simp only [] at h
    cases hv : pv k r1 with
    | error er => rw [hv] at h; cases h
    | ok p =>
      obtain ⟨v, k1, r2⟩ := p
      rw [hv] at h
      cases h
      exact ⟨nm, v, r1, rfl, hv, rfl⟩
theorem mem_insertAt {α : Type} {fs : List (Bs × α)} {nm : Bs} {v : α} {f : Bs × α} (h : f ∈ insertAt fs nm v) : f = (nm, v) ∨ f ∈ fs := by
  rw [insert_eq] at h
  rcases List.mem_append.1 h with h | h
  · exact Or.inr (List.mem_of_mem_take h)
  · rcases List.mem_cons.1 h with h | h
    · exact Or.inl h
    · exact Or.inr (List.mem_of_mem_drop h)
/-- the ways of a value that is read -/
theorem value_cases {n k : Nat} {r : Bs} {j : J n} {k' : Nat} {r' : Bs} (e : value n k r = .ok (j, k', r')) :
    (beginE n k (skip r) = 0) ∧ ((∃ l, hd (skip r) ≠ 91 ∧ hd (skip r) ≠ 123 ∧ leafE (skip r) = .ok (l, r') ∧ j = leaf n l ∧ k' = k + 1) ∨
      (∃ m, ∃ hm : n = m + 1, ∃ xs : List (J m), hd (skip r) = 91 ∧ row 93 (oneItem (value m)) [] (k + 1) (skip r) = .ok (xs, k', r') ∧ j = hm ▸ (Sum.inr (Sum.inl xs) : J (m + 1))) ∨
      (∃ m, ∃ hm : n = m + 1, ∃ fs : List (Bs × J m), hd (skip r) = 123 ∧ row 125 (oneField (value m)) [] (k + 1) (skip r) = .ok (fs, k', r') ∧ j = hm ▸ (Sum.inr (Sum.inr fs) : J (m + 1)))) := by
  cases n with
  | zero =>
    rw [value] at e
    split at e
    · cases e
    · rename_i h0
      have h0' : beginE 0 k (skip r) = 0 := by simpa using h0
      refine ⟨h0', Or.inl ?_⟩
      unfold leafAt at e
      cases hl : leafE (skip r) with
      | error er => rw [hl] at e; cases e
      | ok p =>
        obtain ⟨l, r1⟩ := p
        rw [hl] at e
        cases e
        have hne : hd (skip r) ≠ 91 ∧ hd (skip r) ≠ 123 := by
          unfold beginE at h0'
          split at h0'
          · simp at h0'
          · split at h0'
            · simp at h0'
            · split at h0'
              · simp at h0'
              · rename_i h
                exact ⟨fun e => h ⟨rfl, Or.inl e⟩, fun e => h ⟨rfl, Or.inr e⟩⟩
        exact ⟨l, hne.1, hne.2, rfl, rfl, rfl⟩
  | succ n =>
    rw [value] at e
    split at e
    · cases e
    · rename_i h0
      refine ⟨by simpa using h0, ?_⟩
      split at e
      · rename_i h91
        cases hr : row 93 (oneItem (value n)) [] (k + 1) (skip r) with
        | error er => rw [hr] at e; cases e
        | ok p =>
          obtain ⟨s1, k1, r1⟩ := p
          rw [hr] at e
          cases e
          exact Or.inr (Or.inl ⟨n, rfl, s1, h91, hr, rfl⟩)
      · rename_i h91
        split at e
        · rename_i h123
          cases hr : row 125 (oneField (value n)) [] (k + 1) (skip r) with
          | error er => rw [hr] at e; cases e
          | ok p =>
            obtain ⟨s1, k1, r1⟩ := p
            rw [hr] at e
            cases e
            exact Or.inr (Or.inr ⟨n, rfl, s1, h123, hr, rfl⟩)
        · rename_i h123
          unfold leafAt at e
          cases hl : leafE (skip r) with
          | error er => rw [hl] at e; cases e
          | ok p =>
            obtain ⟨l, r1⟩ := p
            rw [hl] at e
            cases e
            exact Or.inl ⟨l, h91, h123, rfl, rfl, rfl⟩
theorem value_good : ∀ (n : Nat) (k : Nat) (r : Bs) (j : J n) (k' : Nat) (r' : Bs), value n k r = .ok (j, k', r') → Good n j
  | 0, k, r, j, k', r', e => by
    rcases (value_cases e).2 with ⟨l, _, _, hl, rfl, _⟩ | ⟨m, hm, _⟩ | ⟨m, hm, _⟩
    · exact good_leaf (leafE_good hl)
    · cases hm
    · cases hm
  | n + 1, k, r, j, k', r', e => by
    rcases (value_cases e).2 with ⟨l, _, _, hl, rfl, _⟩ | ⟨m, hm, xs, _, hr, hj⟩ | ⟨m, hm, fs, _, hr, hj⟩
    · exact good_leaf (leafE_good hl)
    · cases hm
      subst hj
      refine row_all (one := oneItem (value n)) (P := fun s => ∀ x ∈ s, Good n x) (fun s k r s' k' r' hs ho => ?_) _ _ _ _ _ _ (fun x hx => by simp at hx) hr
      obtain ⟨v, hv, rfl⟩ := oneItem_ok ho
      intro x hx
      rcases List.mem_append.1 hx with hx | hx
      · exact hs x hx
      · simp at hx
        subst hx
        exact value_good n k r x k' r' hv
    · cases hm
      subst hj
      refine row_all (one := oneField (value n)) (P := fun s => Rising s ∧ ∀ f ∈ s, (∀ c ∈ f.1, meant c = true) ∧ Good n f.2) (fun s k r s' k' r' hs ho => ?_) _ _ _ _ _ _ ⟨List.Pairwise.nil, fun x hx => by simp at hx⟩ hr
      obtain ⟨nm, v, r1, hn, hv, rfl⟩ := oneField_ok ho
      obtain ⟨q, hq, hany, _, _⟩ := nameE_ok hn
      refine ⟨rising_insert hs.1 nm v hany, fun f hf => ?_⟩
      rcases mem_insertAt hf with rfl | hf
      · exact ⟨(quoted_meant hq).1, value_good n k r1 v k' r' hv⟩
      · exact hs.2 f hf
theorem read_good {s : Bs} {j : J 10} (h : read s = .ok j) : Good 10 j := by
  unfold read at h
  split at h
  · cases h
  · cases hv : value 10 0 s with
    | error er => rw [hv] at h; cases h
    | ok p =>
      obtain ⟨j1, k1, r1⟩ := p
      rw [hv] at h
      simp only [] at h
      split at h
      · cases h
        exact value_good 10 0 s j k1 r1 hv
      · cases h
end Go.Proofs.YtaogilpkeeigoaaGreatDoor
