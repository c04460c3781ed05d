/- Plain facts on lengths: a canonical document is no longer than the text it was read from. -/
import Derived.Test.YtaogilpkeeigoaaGreatDoorDocGood
namespace Go.Proofs.YtaogilpkeeigoaaGreatDoor
set_option linter.unusedVariables false
set_option linter.unusedSimpArgs false
theorem skip_le : ∀ r : Bs, (skip r).length ≤ r.length
  | [] => Nat.le_refl _
  | c :: r => by
    rw [skip]
    split
    · exact Nat.le_trans (skip_le r) (by simp)
    · exact Nat.le_refl _
theorem hd_pos {r : Bs} {c : UInt8} (h : hd r = c) (h0 : c ≠ 0) : r.length = r.tail.length + 1 := by
  cases r with
  | nil => exact absurd h (by intro e; exact h0 e.symm)
  | cons x r => simp
theorem dec_len : ∀ (k u : Nat), 1 ≤ k → u < 10 ^ k → (Lib.decDigits u).length ≤ k
  | 0, u, h, _ => by omega
  | k + 1, u, _, hu => by
    rw [Lib.decDigits]
    split
    · simp
    · rename_i h10
      cases k with
      | zero => simp at hu; omega
      | succ k =>
        have := dec_len (k + 1) (u / 10) (by omega) (by rw [Nat.pow_succ] at hu; omega)
        simp only [List.length_append, List.length_cons, List.length_nil]
        omega
theorem leafE_short {r : Bs} {l : Leaf} {r' : Bs} (h : leafE r = .ok (l, r')) : (tellLeaf l).length + r'.length ≤ r.length := by
  have hw : ∀ (w : Bs) (a : Leaf), tellLeaf a = w → word w r a = .ok (l, r') → (tellLeaf l).length + r'.length ≤ r.length := by
    intro w a ha hw
    unfold word at hw
    split at hw
    · rename_i hp
      cases hw
      have := (List.isPrefixOf_iff_prefix.1 hp).length_le
      rw [ha, List.length_drop]
      omega
    · cases hw
  unfold leafE at h
  split at h
  · exact hw nullB none rfl h
  · split at h
    · exact hw trueB (some (Sum.inl true)) rfl h
    · split at h
      · exact hw falseB (some (Sum.inl false)) rfl h
      · split at h
        · unfold textE at h
          cases hq : quoted r with
          | none => rw [hq] at h; cases h
          | some p =>
            rw [hq] at h
            cases h
            exact (quoted_meant hq).2
        · unfold number at h
          simp only [] at h
          have hr1 : (if (hd r == 45) = true then r.tail else r).length + (if (hd r == 45) = true then 1 else 0) ≤ r.length := by
            split
            · rename_i h45
              have := hd_pos (r := r) (c := 45) (by simpa using h45) (by decide)
              omega
            · omega
          generalize (if (hd r == 45) = true then r.tail else r) = r1 at h hr1
          split at h
          · cases h
          · split at h
            · cases h
            · split at h
              · cases h
              · rename_i h1 h2 h3
                cases h
                show (Lib.itoa (numVal (hd r == 45) (r1.takeWhile isDigit))).length + (r1.dropWhile isDigit).length ≤ r.length
                have hdg : ∀ c ∈ r1.takeWhile isDigit, isDigit c = true := fun c hc => by
                  have := List.all_takeWhile (p := isDigit) (l := r1)
                  rw [List.all_eq_true] at this
                  exact this c hc
                have hsum : (r1.takeWhile isDigit).length + (r1.dropWhile isDigit).length = r1.length := by
                  have := congrArg List.length (List.takeWhile_append_dropWhile (p := isDigit) (l := r1))
                  rw [List.length_append] at this
                  exact this
                have hpos : 1 ≤ (r1.takeWhile isDigit).length := List.length_pos_iff.2 h1
                have hlt := decV_lt _ hdg
                have hdl := dec_len _ _ hpos hlt
                generalize r1.takeWhile isDigit = ds at *
                have hi : (Lib.itoa (numVal (hd r == 45) ds)).length ≤ ds.length + (if (hd r == 45) = true then 1 else 0) := by
                  unfold Lib.itoa numVal
                  cases hd r == 45 with
                  | true =>
                    simp only [if_true]
                    split
                    · rename_i hneg
                      have : (-(decV ds : Int)).natAbs = decV ds := by omega
                      rw [this, List.length_cons]
                      omega
                    · rename_i hneg
                      have h0 : decV ds = 0 := by omega
                      have : (-(decV ds : Int)).toNat = decV ds := by omega
                      rw [this]
                      omega
                  | false =>
                    have : ((decV ds : Nat) : Int).toNat = decV ds := by omega
                    simp only [Bool.false_eq_true, if_false]
                    rw [if_neg (by omega), this]
                    omega
                omega
theorem commas_len : ∀ ts : List Bs, ts ≠ [] → (commas ts).length + 1 = (ts.map fun t => t.length + 1).sum
  | [], h => absurd rfl h
  | [x], _ => by simp [commas]
  | x :: y :: r, _ => by
    have := commas_len (y :: r) (by simp)
    simp only [commas, List.map_cons, List.sum_cons, List.length_append, List.length_cons] at this ⊢
    omega
/-- a weight that parts bring, no more than what is read of them -/
theorem rowGo_short {σ : Type} {z : UInt8} {one : σ → Nat → Bs → Except Nat (σ × Nat × Bs)} {W : σ → Nat} (hz : z ≠ 0) (h : ∀ s k r s' k' r', one s k r = .ok (s', k', r') → W s' + r'.length ≤ W s + 1 + r.length ∧ W s < W s') : ∀ (f : Nat) (s : σ) (k : Nat) (r : Bs) (s' : σ) (k' : Nat) (r' : Bs), rowGo z one f s k r = .ok (s', k', r') → W s' + r'.length ≤ W s + r.length ∧ W s < W s'
  | 0, s, k, r, s', k', r', e => by simp [rowGo] at e
  | f + 1, s, k, r, s', k', r', e => by
    rw [rowGo] at e
    cases ho : one s k r with
    | error er => rw [ho] at e; cases e
    | ok p =>
      obtain ⟨s1, k1, r1⟩ := p
      have h1 := h s k r s1 k1 r1 ho
      have h2 := skip_le r1
      rw [ho] at e
      simp only [] at e
      split at e
      · rename_i hc
        have h3 := hd_pos hc hz
        cases e
        omega
      · split at e
        · rename_i hc
          have h3 := hd_pos hc (by decide)
          have h4 := rowGo_short hz h f s1 k1 _ s' k' r' e
          omega
        · cases e
theorem row_short {σ : Type} {z : UInt8} {one : σ → Nat → Bs → Except Nat (σ × Nat × Bs)} {W : σ → Nat} (hz : z ≠ 0) (h : ∀ s k r s' k' r', one s k r = .ok (s', k', r') → W s' + r'.length ≤ W s + 1 + r.length ∧ W s < W s') (s : σ) (k : Nat) (r : Bs) (s' : σ) (k' : Nat) (r' : Bs) (hr : 0 < r.length) (e : row z one s k r = .ok (s', k', r')) : (s' = s ∧ r'.length + 2 ≤ r.length) ∨ (W s' + r'.length + 1 ≤ W s + r.length ∧ W s < W s') := by
  have ht : r.tail.length + 1 = r.length := by simp; omega
  have hsk := skip_le r.tail
  unfold row at e
  split at e
  · rename_i hc
    have h3 := hd_pos hc hz
    cases e
    exact Or.inl ⟨rfl, by omega⟩
  · have := rowGo_short hz h _ _ _ _ _ _ _ e
    exact Or.inr ⟨by omega, this.2⟩
theorem sum_insert {α : Type} (W : Bs × α → Nat) (fs : List (Bs × α)) (nm : Bs) (v : α) : ((insertAt fs nm v).map W).sum = (fs.map W).sum + W (nm, v) := by
  rw [insert_eq]
  have h : (fs.map W).sum = ((fs.take (placeOfName fs nm)).map W).sum + ((fs.drop (placeOfName fs nm)).map W).sum := by
    rw [← List.sum_append, ← List.map_append, List.take_append_drop]
  rw [List.map_append, List.sum_append, List.map_cons, List.sum_cons, h]
  omega
theorem value_short : ∀ (n : Nat) (k : Nat) (r : Bs) (j : J n) (k' : Nat) (r' : Bs), value n k r = .ok (j, k', r') → (tell n j).length + r'.length ≤ r.length
  | 0, k, r, j, k', r', e => by
    have hsk := skip_le r
    rcases (value_cases e).2 with ⟨l, _, _, hl, hj, _⟩ | ⟨m, hm, _⟩ | ⟨m, hm, _⟩
    · have := leafE_short hl
      have e1 : tell 0 j = tellLeaf l := by rw [hj]; rfl
      rw [e1]
      omega
    · cases hm
    · cases hm
  | n + 1, k, r, j, k', r', e => by
    have hsk := skip_le r
    rcases (value_cases e).2 with ⟨l, _, _, hl, rfl, _⟩ | ⟨m, hm, xs, hc, hr, hj⟩ | ⟨m, hm, fs, hc, hr, hj⟩
    · have := leafE_short hl
      show (tellLeaf l).length + r'.length ≤ r.length
      omega
    · cases hm
      subst hj
      have hp := hd_pos hc (by decide)
      show (91 :: (commas (xs.map (tell n)) ++ [93])).length + r'.length ≤ r.length
      simp only [List.length_cons, List.length_append, List.length_nil]
      rcases row_short (one := oneItem (value n)) (W := fun s => (s.map fun x => (tell n x).length + 1).sum) (by decide) (fun s k r s' k' r' ho => by
          obtain ⟨v, hv, rfl⟩ := oneItem_ok ho
          have := value_short n k r v k' r' hv
          simp only [List.map_append, List.sum_append, List.map_cons, List.map_nil, List.sum_cons, List.sum_nil]
          omega) _ _ _ _ _ _ (by omega) hr with ⟨h1, h2⟩ | ⟨h1, h2⟩
      · subst h1
        simp [commas]
        omega
      · by_cases h0 : xs = []
        · rw [h0] at h2
          simp at h2
        · have := commas_len (xs.map (tell n)) (by simpa using h0)
          simp only [List.map_map] at this
          have e1 : (xs.map ((fun t : Bs => t.length + 1) ∘ tell n)).sum = (xs.map fun x => (tell n x).length + 1).sum := rfl
          rw [e1] at this
          simp only [List.map_nil, List.sum_nil] at h1
          omega
    · cases hm
      subst hj
      have hp := hd_pos hc (by decide)
      show (123 :: (commas (fs.map fun f => quote f.1 ++ 58 :: tell n f.2) ++ [125])).length + r'.length ≤ r.length
      simp only [List.length_cons, List.length_append, List.length_nil]
      rcases row_short (one := oneField (value n)) (W := fun s => (s.map fun f => (quote f.1 ++ 58 :: tell n f.2).length + 1).sum) (by decide) (fun s k r s' k' r' ho => by
          obtain ⟨nm, v, r1, hn, hv, rfl⟩ := oneField_ok ho
          obtain ⟨q, hq, _, h58, rfl⟩ := nameE_ok hn
          have h1 := value_short n k _ v k' r' hv
          have h2 := (quoted_meant hq).2
          have h3 := skip_le r
          have h4 := skip_le q
          have h5 := hd_pos h58 (by decide)
          rw [sum_insert]
          simp only [List.length_append, List.length_cons] at h2 ⊢
          omega) _ _ _ _ _ _ (by omega) hr with ⟨h1, h2⟩ | ⟨h1, h2⟩
      · subst h1
        simp [commas]
        omega
      · by_cases h0 : fs = []
        · rw [h0] at h2
          simp at h2
        · have := commas_len (fs.map fun f => quote f.1 ++ 58 :: tell n f.2) (by simpa using h0)
          rw [List.map_map] at this
          have e1 : (fs.map ((fun t : Bs => t.length + 1) ∘ fun f => quote f.1 ++ 58 :: tell n f.2)).sum = (fs.map fun f => (quote f.1 ++ 58 :: tell n f.2).length + 1).sum := rfl
          rw [e1] at this
          simp only [List.map_nil, List.sum_nil] at h1
          omega
theorem read_short {s : Bs} {j : J 10} (h : read s = .ok j) : (tell 10 j).length ≤ s.length ∧ s.length ≤ 2000 := by
  unfold read at h
  split at h
  · cases h
  · rename_i h2
    cases hv : value 10 0 s with
    | error er => rw [hv] at h; cases h
    | ok p =>
      obtain ⟨j1, k1, r1⟩ := p
      rw [hv] at h
      simp only [] at h
      split at h
      · cases h
        have := value_short 10 0 s j k1 r1 hv
        exact ⟨by omega, by omega⟩
      · cases h
end Go.Proofs.YtaogilpkeeigoaaGreatDoor
