/- Plain facts: how great is what has another value somewhere; where one pointer begins another. -/
import Derived.Test.YthdgfehfoidnbabGreatDoorM13
namespace Go.Proofs.YthdgfehfoidnbabGreatDoor
set_option linter.unusedVariables false
set_option linter.unusedSimpArgs false
theorem commas_lenE : ∀ (ts : List Bs), ts ≠ [] → (commas ts).length + 1 = (ts.map List.length).sum + ts.length
  | [], h => absurd rfl h
  | [x], _ => by simp [commas]
  | x :: y :: r, _ => by
    have := commas_lenE (y :: r) (by simp)
    simp only [commas, List.length_append, List.length_cons, List.map_cons, List.sum_cons] at this ⊢
    omega
theorem commas_swap (A C : List Bs) (t u : Bs) : (commas (A ++ t :: C)).length + u.length = (commas (A ++ u :: C)).length + t.length := by
  have h1 := commas_lenE (A ++ t :: C) (by simp)
  have h2 := commas_lenE (A ++ u :: C) (by simp)
  simp only [List.map_append, List.map_cons, List.sum_append, List.sum_cons, List.length_append, List.length_cons] at h1 h2
  omega
theorem set_mid {α : Type} {xs : List α} {i : Nat} {c d : α} (h : xs[i]? = some c) : ∃ A C, xs = A ++ c :: C ∧ xs.set i d = A ++ d :: C := by
  obtain ⟨hi, rfl⟩ := List.getElem?_eq_some_iff.1 h
  refine ⟨xs.take i, xs.drop (i + 1), ?_, ?_⟩
  · rw [List.getElem_cons_drop]; simp
  · exact List.set_eq_take_append_cons_drop.trans (if_pos hi)
theorem size_repl {n : Nat} {j : J (n + 1)} {s : Bs} {c d : J n} (hr : Rise (n + 1) j) (h : childP j s = some c) :
    nodes (n + 1) (replP j s d) + nodes n c = nodes (n + 1) j + nodes n d ∧ (tell (n + 1) (replP j s d)).length + (tell n c).length = (tell (n + 1) j).length + (tell n d).length := by
  match j, hr, h with
  | Sum.inr (Sum.inl xs), hr, h =>
    obtain ⟨i, hi, hx⟩ := Option.bind_eq_some_iff.1 (show ((placeP s).bind fun i => xs[i]?) = some c from h)
    obtain ⟨A, C, h1, h2⟩ := set_mid (d := d) hx
    have e : replP (Sum.inr (Sum.inl xs)) s d = (Sum.inr (Sum.inl (A ++ d :: C)) : J (n + 1)) := by
      unfold replP
      rw [hi]
      simp only []
      rw [h2]
    rw [e, h1]
    have hs := commas_swap (A.map (tell n)) (C.map (tell n)) (tell n c) (tell n d)
    refine ⟨?_, ?_⟩
    · show 1 + ((A ++ d :: C).map (nodes n)).sum + _ = 1 + ((A ++ c :: C).map (nodes n)).sum + _
      simp only [List.map_append, List.map_cons, List.sum_append, List.sum_cons]
      omega
    · show (91 :: (commas ((A ++ d :: C).map (tell n)) ++ [93])).length + _ = (91 :: (commas ((A ++ c :: C).map (tell n)) ++ [93])).length + _
      simp only [List.map_append, List.map_cons, List.length_cons, List.length_append, List.length_nil]
      omega
  | Sum.inr (Sum.inr fs), hr, h =>
    obtain ⟨A, C, h1, h2, h3⟩ := fieldAt_split hr.1 h
    subst h1
    have e : replP (Sum.inr (Sum.inr (A ++ (s, c) :: C))) s d = (Sum.inr (Sum.inr (A ++ (s, d) :: C)) : J (n + 1)) := by
      show Sum.inr (Sum.inr (repl _ s d)) = _
      rw [repl_mid h2 h3]
    rw [e]
    have hs := commas_swap (A.map fun f => quote f.1 ++ 58 :: tell n f.2) (C.map fun f => quote f.1 ++ 58 :: tell n f.2) (quote s ++ 58 :: tell n c) (quote s ++ 58 :: tell n d)
    refine ⟨?_, ?_⟩
    · show 1 + ((A ++ (s, d) :: C).map fun f => nodes n f.2).sum + _ = 1 + ((A ++ (s, c) :: C).map fun f => nodes n f.2).sum + _
      simp only [List.map_append, List.map_cons, List.sum_append, List.sum_cons]
      omega
    · show (123 :: (commas ((A ++ (s, d) :: C).map fun f => quote f.1 ++ 58 :: tell n f.2) ++ [125])).length + _ = (123 :: (commas ((A ++ (s, c) :: C).map fun f => quote f.1 ++ 58 :: tell n f.2) ++ [125])).length + _
      simp only [List.map_append, List.map_cons, List.length_cons, List.length_append, List.length_nil] at hs ⊢
      omega
theorem size_set (it : (m : Nat) → J m) (a b : Nat) : ∀ (l : List Bs) (n : Nat) (j : J n), Rise n j → (∀ m, n ≤ m + l.length → m ≤ n → nodes m (it m) ≤ a ∧ (tell m (it m)).length ≤ b) → nodes n (setP n j l it) ≤ nodes n j + a ∧ (tell n (setP n j l it)).length ≤ (tell n j).length + b
  | [], n, j, hr, h => by
    have := h n (by simp) (Nat.le_refl _)
    have e : setP n j [] it = it n := by cases n <;> rfl
    rw [e]
    omega
  | s :: r, 0, j, hr, h => ⟨Nat.le_add_right _ _, Nat.le_add_right _ _⟩
  | s :: r, n + 1, j, hr, h => by
    show nodes (n + 1) (match childP j s with
      | none => j
      | some c => replP j s (setP n c r it)) ≤ _ ∧ (tell (n + 1) (match childP j s with
      | none => j
      | some c => replP j s (setP n c r it))).length ≤ _
    cases hc : childP j s with
    | none => exact ⟨Nat.le_add_right _ _, Nat.le_add_right _ _⟩
    | some c =>
      simp only []
      have ih := size_set it a b r n c (rise_child hr hc) (fun m h1 h2 => h m (by simp; omega) (by omega))
      have := size_repl (d := setP n c r it) hr hc
      omega
/-- what is put where something is may be told -/
theorem fine_set {N : Nat} (hN : 20 ≤ N) (hM : N ≤ 100000) {D G : J N} {L : List Bs} (hL : L.length ≤ 10) (hD : Told20 N D) (hG : Told20 N G) : Good N (setP N D L (fun m => lift N m G)) ∧ Fine N (setP N D L (fun m => lift N m G)) := by
  have hg := good_set (fun m => lift N m G) (fun m => good_lift N m G hG.good) L N D hD.good
  have hz := size_set (fun m => lift N m G) (nodes N G) (tell N G).length L N D (rise_of_good _ _ hD.good) (fun m h1 h2 => by
    have hs := lift_said N m G (by have := hG.depth; omega)
    show nodes m (lift N m G) ≤ _ ∧ (tell m (lift N m G)).length ≤ _
    rw [hs.1, hs.2.1]
    exact ⟨Nat.le_refl _, Nat.le_refl _⟩)
  have h1 := hD.nodes
  have h2 := hD.len
  have h3 := hG.nodes
  have h4 := hG.len
  have h5 := depth_bound N (setP N D L (fun m => lift N m G))
  exact ⟨hg, fit_of_good _ _ hg, by omega, by omega, by omega⟩
/-- what was told without error is within the limits -/
theorem told_zero {N : Nat} {R : J N} {s : ByteArray} (hg : Good N R) (h : toldE N R = #[.string s, .int .i64 0]) : Told20 N R ∧ s = ⟨(tell N R).toArray⟩ := by
  unfold toldE at h
  split at h
  · simp at h
  · split at h
    · simp at h
    · split at h
      · simp at h
      · simp at h
        exact ⟨⟨hg, by omega, by omega, by omega⟩, h.symm⟩
theorem join_app : ∀ (a b : List Bs), joinB (a ++ b) = joinB a ++ joinB b
  | [], b => rfl
  | s :: r, b => by
    show 47 :: (written s ++ joinB (r ++ b)) = 47 :: (written s ++ joinB r) ++ joinB b
    rw [join_app r b]
    simp
theorem begins_prefix {p q : Bs} {a b : List Bs} (hp : stepsE p = .ok a) (hq : stepsE q = .ok b) (h : begins a b) : p = q ∨ Lib.hasPrefix q (p ++ [47]) = true := by
  obtain ⟨r, rfl⟩ := h
  cases r with
  | nil =>
    rw [List.append_nil] at hq
    exact Or.inl (steps_inj hp hq)
  | cons t r =>
    refine Or.inr ?_
    have h1 := (join_steps hp).1
    have h2 := (join_steps hq).1
    rw [join_app, h1] at h2
    rw [← h2]
    unfold Lib.hasPrefix
    rw [List.isPrefixOf_iff_prefix]
    exact ⟨written t ++ joinB r, by simp [joinB]⟩
end Go.Proofs.YthdgfehfoidnbabGreatDoor
