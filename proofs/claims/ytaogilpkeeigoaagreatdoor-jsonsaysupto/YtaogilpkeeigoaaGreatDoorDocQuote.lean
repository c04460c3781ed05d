/- Plain facts on texts: a text that is quoted reads as itself. -/
import Derived.Test.YtaogilpkeeigoaaGreatDoorDoc
namespace Go.Proofs.YtaogilpkeeigoaaGreatDoor
/-- may the byte stand in a text that is meant? -/
def meant (c : UInt8) : Bool := plain c || (c == 10 || c == 9)
theorem meaning_meant (d : UInt8) (h : ¬ meaning d = 0) : meant (meaning d) = true ∧ (quoteB (meaning d)).length ≤ 2 := by
  unfold meaning at h ⊢
  split at h
  · rename_i h1
    rw [if_pos h1]
    rcases h1 with rfl | rfl <;> decide
  · rename_i h1
    rw [if_neg h1]
    split at h
    · rename_i h2
      rw [if_pos h2]
      decide
    · rename_i h2
      rw [if_neg h2]
      split at h
      · rename_i h3
        rw [if_pos h3]
        decide
      · exact absurd rfl h
theorem plain_meant (c : UInt8) (h34 : ¬ c = 34) (h92 : ¬ c = 92) (hp : plain c = true) : meant c = true ∧ (quoteB c).length ≤ 1 := by
  refine ⟨by simp [meant, hp], ?_⟩
  have h10 : c ≠ 10 := by intro e; subst e; revert hp; decide
  have h9 : c ≠ 9 := by intro e; subst e; revert hp; decide
  simp [quoteB, h10, h9, h34, h92]
theorem signs_nil : signs [] = none := by rw [signs.eq_def]
theorem signs_cons (c : UInt8) (r : Bs) : signs (c :: r) = if c = 34 then some ([], r)
    else if c = 92 then
      match r with
      | [] => none
      | d :: r' => if meaning d = 0 then none else (signs r').map fun p => (meaning d :: p.1, p.2)
    else if plain c then (signs r).map fun p => (c :: p.1, p.2)
    else none := by
  rw [signs.eq_def]
  rfl
theorem quoteB_cases (c : UInt8) (h : meant c = true) : (quoteB c = [c] ∧ c ≠ 34 ∧ c ≠ 92 ∧ plain c = true) ∨ ∃ d, quoteB c = [92, d] ∧ meaning d = c ∧ c ≠ 0 := by
  by_cases h10 : c = 10
  · subst h10; exact Or.inr ⟨110, by decide⟩
  by_cases h9 : c = 9
  · subst h9; exact Or.inr ⟨116, by decide⟩
  by_cases h34 : c = 34
  · subst h34; exact Or.inr ⟨34, by decide⟩
  by_cases h92 : c = 92
  · subst h92; exact Or.inr ⟨92, by decide⟩
  refine Or.inl ⟨by simp [quoteB, h10, h9, h34, h92], h34, h92, ?_⟩
  simpa [meant, h10, h9] using h
theorem signs_quoteB (c : UInt8) (h : meant c = true) (r : Bs) : signs (quoteB c ++ r) = (signs r).map fun p => (c :: p.1, p.2) := by
  rcases quoteB_cases c h with ⟨e, h1, h2, h3⟩ | ⟨d, e, hm, h0⟩
  · rw [e]
    show signs (c :: r) = _
    rw [signs_cons]
    simp only [h1, h2, h3, if_true, if_false]
  · rw [e]
    show signs (92 :: d :: r) = _
    rw [signs_cons]
    simp [hm, h0]
theorem signs_quote : ∀ (s : Bs) (_ : ∀ c ∈ s, meant c = true) (r : Bs), signs (s.flatMap quoteB ++ 34 :: r) = some (s, r)
  | [], _, r => by simp [signs_cons]
  | c :: s, h, r => by
    rw [List.flatMap_cons, List.append_assoc, signs_quoteB c (h c (by simp)), signs_quote s (fun d hd => h d (by simp [hd])) r]
    rfl
theorem quoted_quote (s : Bs) (h : ∀ c ∈ s, meant c = true) (r : Bs) : quoted (quote s ++ r) = some (s, r) := by
  have : quote s ++ r = 34 :: (s.flatMap quoteB ++ 34 :: r) := by simp [quote]
  rw [this, quoted]
  simp only [hd, List.headD_cons, List.tail_cons, if_true]
  exact signs_quote s h r
theorem quote_inj {a b : Bs} (ha : ∀ c ∈ a, meant c = true) (hb : ∀ c ∈ b, meant c = true) (h : quote a = quote b) : a = b := by
  have h1 := quoted_quote a ha []
  have h2 := quoted_quote b hb []
  rw [h, h2] at h1
  simpa using h1.symm
theorem signs_meant : ∀ (n : Nat) (r : Bs) (_ : r.length ≤ n) (p : Bs × Bs), signs r = some p → (∀ c ∈ p.1, meant c = true) ∧ (p.1.flatMap quoteB).length + p.2.length < r.length
  | 0, [], _, p, h => by simp [signs_nil] at h
  | 0, _ :: _, hn, _, _ => by simp at hn
  | _ + 1, [], _, p, h => by simp [signs_nil] at h
  | n + 1, c :: r, hn, p, h => by
    rw [signs_cons] at h
    have hn' : r.length ≤ n := by simpa using hn
    split at h
    · cases h; simp
    · rename_i h34
      split at h
      · split at h
        · cases h
        · rename_i d r'
          split at h
          · cases h
          · rename_i hm
            cases hs : signs r' with
            | none => rw [hs] at h; cases h
            | some q =>
              rw [hs] at h
              cases h
              have ih := signs_meant n r' (by simp at hn'; omega) q hs
              have hd := meaning_meant d hm
              refine ⟨fun c hc => ?_, ?_⟩
              · rcases List.mem_cons.1 hc with rfl | hc
                · exact hd.1
                · exact ih.1 c hc
              · simp only [List.flatMap_cons, List.length_append, List.length_cons]
                have := ih.2
                omega
      · rename_i h92
        split at h
        · rename_i hp
          cases hs : signs r with
          | none => rw [hs] at h; cases h
          | some q =>
            rw [hs] at h
            cases h
            have ih := signs_meant n r hn' q hs
            have hd := plain_meant c h34 h92 hp
            refine ⟨fun c hc => ?_, ?_⟩
            · rcases List.mem_cons.1 hc with rfl | hc
              · exact hd.1
              · exact ih.1 c hc
            · simp only [List.flatMap_cons, List.length_append, List.length_cons]
              have := ih.2
              omega
        · cases h
theorem quoted_meant {r : Bs} {p : Bs × Bs} (h : quoted r = some p) : (∀ c ∈ p.1, meant c = true) ∧ (quote p.1).length + p.2.length ≤ r.length := by
  unfold quoted at h
  split at h
  · cases r with
    | nil => simp [signs_nil] at h
    | cons c r =>
      have := signs_meant r.length r (Nat.le_refl _) p h
      refine ⟨this.1, ?_⟩
      simp only [quote, List.length_cons, List.length_append, List.length_nil]
      have := this.2
      omega
  · cases h
end Go.Proofs.YtaogilpkeeigoaaGreatDoor
