/- Plain facts: how many values are read and how deep they lie; what is told, alone and within a list, is read so. -/
import Derived.Test.YtaogilpkeeigoaaDoorDocTold
import Derived.Test.YtaogilpkeeigoaaDoorDocShort
namespace Go.Proofs.YtaogilpkeeigoaaDoor
set_option linter.unusedVariables false
set_option linter.unusedSimpArgs false
theorem maxOf_bound {b : Nat} : ∀ (l : List Nat), (∀ y ∈ l, y ≤ b) → maxOf l ≤ b
  | [], _ => Nat.zero_le _
  | x :: l, h => by
    have h1 := maxOf_bound l (fun z hz => h z (by simp [hz]))
    have h2 := h x (by simp)
    simp only [maxOf]
    omega
theorem depth_le : ∀ (n : Nat) (j : J n), depth n j ≤ n
  | 0, _ => Nat.le_refl _
  | _ + 1, Sum.inl _ => Nat.zero_le _
  | n + 1, Sum.inr (Sum.inl xs) => by
    have := maxOf_bound (b := n) (xs.map (depth n)) (fun y hy => by
      obtain ⟨z, _, rfl⟩ := List.mem_map.1 hy
      exact depth_le n z)
    show 1 + maxOf (xs.map (depth n)) ≤ n + 1
    omega
  | n + 1, Sum.inr (Sum.inr fs) => by
    have := maxOf_bound (b := n) (fs.map (fun f => depth n f.2)) (fun y hy => by
      obtain ⟨z, _, rfl⟩ := List.mem_map.1 hy
      exact depth_le n z.2)
    show 1 + maxOf (fs.map (fun f => depth n f.2)) ≤ n + 1
    omega
theorem rowGo_inv {σ : Type} {z : UInt8} {one : σ → Nat → Bs → Except Nat (σ × Nat × Bs)} {P : σ → Nat → Prop} (h : ∀ s k r s' k' r', P s k → one s k r = .ok (s', k', r') → P s' k') : ∀ (f : Nat) (s : σ) (k : Nat) (r : Bs) (s' : σ) (k' : Nat) (r' : Bs), P s k → rowGo z one f s k r = .ok (s', k', r') → P s' k'
  | 0, s, k, r, s', k', r', hs, e => by simp [rowGo] at e
  | f + 1, s, k, r, s', k', r', hs, e => by
    rw [rowGo] at e
    cases ho : one s k r with
    | error er => rw [ho] at e; cases e
    | ok p =>
      obtain ⟨s1, k1, r1⟩ := p
      have h1 := h s k r s1 k1 r1 hs ho
      rw [ho] at e
      simp only [] at e
      split at e
      · cases e; exact h1
      · split at e
        · exact rowGo_inv h f s1 k1 _ s' k' r' h1 e
        · cases e
theorem row_inv {σ : Type} {z : UInt8} {one : σ → Nat → Bs → Except Nat (σ × Nat × Bs)} {P : σ → Nat → Prop} (h : ∀ s k r s' k' r', P s k → one s k r = .ok (s', k', r') → P s' k') (s : σ) (k : Nat) (r : Bs) (s' : σ) (k' : Nat) (r' : Bs) (hs : P s k) (e : row z one s k r = .ok (s', k', r')) : P s' k' := by
  unfold row at e
  split at e
  · cases e; exact hs
  · exact rowGo_inv h _ _ _ _ _ _ _ hs e
theorem begin_room {n k : Nat} {r : Bs} (h : beginE n k r = 0) : k < 200 := by
  unfold beginE at h
  split at h
  · simp at h
  · split at h
    · simp at h
    · omega
theorem value_size : ∀ (n : Nat) (k : Nat) (r : Bs) (j : J n) (k' : Nat) (r' : Bs), value n k r = .ok (j, k', r') → k' = k + nodes n j ∧ k' ≤ 200
  | 0, k, r, j, k', r', e => by
    have hb := begin_room (value_cases e).1
    rcases (value_cases e).2 with ⟨l, _, _, hl, rfl, rfl⟩ | ⟨m, hm, _⟩ | ⟨m, hm, _⟩
    · exact ⟨rfl, by omega⟩
    · cases hm
    · cases hm
  | n + 1, k, r, j, k', r', e => by
    have hb := begin_room (value_cases e).1
    rcases (value_cases e).2 with ⟨l, _, _, hl, rfl, rfl⟩ | ⟨m, hm, xs, _, hr, hj⟩ | ⟨m, hm, fs, _, hr, hj⟩
    · exact ⟨rfl, by omega⟩
    · cases hm
      subst hj
      have h := row_inv (one := oneItem (value n)) (P := fun s q => q = k + 1 + (s.map (nodes n)).sum ∧ q ≤ 200) (fun s q r s' q' r' hs ho => by
        obtain ⟨v, hv, rfl⟩ := oneItem_ok ho
        obtain ⟨h1, h2⟩ := value_size n q r v q' r' hv
        refine ⟨?_, h2⟩
        simp only [List.map_append, List.sum_append, List.map_cons, List.map_nil, List.sum_cons, List.sum_nil]
        omega) _ _ _ _ _ _ ⟨by simp, by omega⟩ hr
      refine ⟨?_, h.2⟩
      show k' = k + (1 + (xs.map (nodes n)).sum)
      omega
    · cases hm
      subst hj
      have h := row_inv (one := oneField (value n)) (P := fun s q => q = k + 1 + (s.map (fun f => nodes n f.2)).sum ∧ q ≤ 200) (fun s q r s' q' r' hs ho => by
        obtain ⟨nm, v, r1, hn, hv, rfl⟩ := oneField_ok ho
        obtain ⟨h1, h2⟩ := value_size n q r1 v q' r' hv
        refine ⟨?_, h2⟩
        rw [sum_insert (fun f => nodes n f.2)]
        show q' = k + 1 + ((s.map (fun f => nodes n f.2)).sum + nodes n v)
        omega) _ _ _ _ _ _ ⟨by simp, by omega⟩ hr
      refine ⟨?_, h.2⟩
      show k' = k + (1 + (fs.map (fun f => nodes n f.2)).sum)
      omega
theorem read_val {s : Bs} {j : J 10} (h : read s = .ok j) : ∃ k r, value 10 0 s = .ok (j, k, r) ∧ skip r = [] ∧ s.length ≤ 2000 := by
  unfold read at h
  split at h
  · cases h
  · cases hv : value 10 0 s with
    | error er => rw [hv] at h; cases h
    | ok p =>
      obtain ⟨j1, k1, r1⟩ := p
      rw [hv] at h
      simp only [] at h
      split at h
      · rename_i hl hs
        cases h
        exact ⟨k1, r1, rfl, hs, by omega⟩
      · cases h
theorem nodes_one : ∀ (n : Nat) (j : J n), 1 ≤ nodes n j
  | 0, _ => Nat.le_refl _
  | _ + 1, Sum.inl _ => Nat.le_refl _
  | _ + 1, Sum.inr (Sum.inl _) => Nat.le_add_right _ _
  | _ + 1, Sum.inr (Sum.inr _) => Nat.le_add_right _ _
theorem read_size {s : Bs} {j : J 10} (h : read s = .ok j) : 1 ≤ nodes 10 j ∧ nodes 10 j ≤ 200 ∧ depth 10 j ≤ 10 := by
  obtain ⟨k, r, hv, _, _⟩ := read_val h
  obtain ⟨h1, h2⟩ := value_size _ _ _ _ _ _ hv
  exact ⟨nodes_one _ _, by omega, depth_le _ _⟩
/-- what is told of a value, read -/
theorem read_of_told {t : Bs} {many deep : Nat} (h : Told 10 0 t many deep []) (hl : t.length ≤ 2000) :
    (∃ j', read t = .ok j' ∧ tell 10 j' = t ∧ nodes 10 j' = many ∧ depth 10 j' = deep ∧ many ≤ 200 ∧ deep ≤ 10) ∨ (read t = .error 2 ∧ 200 < many) ∨ (read t = .error 4 ∧ 10 < deep) := by
  unfold Told at h
  rw [List.append_nil] at h
  unfold read
  rw [if_neg (by omega)]
  rcases h with ⟨j', hv, h1, h2, h3, h4, h5⟩ | ⟨hv, h1⟩ | ⟨hv, h1⟩
  · refine Or.inl ⟨j', ?_, h1, h2, h3, by omega, h5⟩
    rw [hv]
    rfl
  · exact Or.inr (Or.inl ⟨by rw [hv], by omega⟩)
  · exact Or.inr (Or.inr ⟨by rw [hv], h1⟩)
theorem noDigit_nil : noDigit [] := by
  show isDigit 0 = false
  decide
theorem read_again {s : Bs} {j : J 10} (h : read s = .ok j) : ∃ j', read (tell 10 j) = .ok j' ∧ tell 10 j' = tell 10 j ∧ nodes 10 j' = nodes 10 j ∧ depth 10 j' = depth 10 j := by
  obtain ⟨h1, h2, h3⟩ := read_size h
  have hs := read_short h
  rcases read_of_told (told_any 10 j (read_good h) 10 0 [] noDigit_nil (by omega)) (by omega) with ⟨j', a, b, c, d, _⟩ | ⟨_, h4⟩ | ⟨_, h4⟩
  · exact ⟨j', a, b, c, d⟩
  · omega
  · omega
theorem read_long {s : Bs} (h : 2000 < s.length) : read s = .error 2 := by
  unfold read
  rw [if_pos h]
/-- within a list -/
def wrapB (t : Bs) : Bs := 91 :: (t ++ [93])
theorem wrap_len (t : Bs) : (wrapB t).length = t.length + 2 := by simp [wrapB]
theorem read_wrap {s : Bs} {j : J 10} (h : read s = .ok j) :
    (1998 < (tell 10 j).length ∧ read (wrapB (tell 10 j)) = .error 2) ∨
    ((tell 10 j).length ≤ 1998 ∧ ((∃ j', read (wrapB (tell 10 j)) = .ok j' ∧ tell 10 j' = wrapB (tell 10 j) ∧ nodes 10 j' = nodes 10 j + 1 ∧ depth 10 j' = depth 10 j + 1 ∧ nodes 10 j < 200 ∧ depth 10 j < 10) ∨ (read (wrapB (tell 10 j)) = .error 2 ∧ nodes 10 j = 200) ∨ (read (wrapB (tell 10 j)) = .error 4 ∧ depth 10 j = 10))) := by
  obtain ⟨h1, h2, h3⟩ := read_size h
  have hw := wrap_len (tell 10 j)
  by_cases hl : 1998 < (tell 10 j).length
  · exact Or.inl ⟨hl, read_long (by omega)⟩
  · refine Or.inr ⟨by omega, ?_⟩
    have ht := told_any 11 (Sum.inr (Sum.inl [j])) (fun x hx => by
      simp only [List.mem_singleton] at hx
      rw [hx]
      exact read_good h) 10 0 [] noDigit_nil (by omega)
    have e1 : tell 11 (Sum.inr (Sum.inl [j])) = wrapB (tell 10 j) := rfl
    have e2 : nodes 11 (Sum.inr (Sum.inl [j])) = nodes 10 j + 1 := by
      show 1 + (nodes 10 j + 0) = _
      omega
    have e3 : depth 11 (Sum.inr (Sum.inl [j])) = depth 10 j + 1 := by
      show 1 + max (depth 10 j) 0 = _
      omega
    rw [e1, e2, e3] at ht
    rcases read_of_told ht (by omega) with ⟨j', a, b, c, d, e, f⟩ | ⟨a, h4⟩ | ⟨a, h4⟩
    · exact Or.inl ⟨j', a, b, c, d, by omega, by omega⟩
    · exact Or.inr (Or.inl ⟨a, by omega⟩)
    · exact Or.inr (Or.inr ⟨a, by omega⟩)
end Go.Proofs.YtaogilpkeeigoaaDoor
