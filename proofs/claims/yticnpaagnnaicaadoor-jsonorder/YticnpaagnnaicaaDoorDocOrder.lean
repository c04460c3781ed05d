/- Plain facts: an object of two fields, in whatever order they stand, and with one name twice. -/
import Derived.Test.YticnpaagnnaicaaDoorDocSize
namespace Go.Proofs.YticnpaagnnaicaaDoor
set_option linter.unusedVariables false
set_option linter.unusedSimpArgs false
def uB (s t : Bs) : Bs := 123 :: 34 :: 112 :: 34 :: 58 :: (s ++ 44 :: 32 :: 34 :: 111 :: 34 :: 58 :: (t ++ [125]))
def vB (s t : Bs) : Bs := 123 :: 34 :: 111 :: 34 :: 58 :: (t ++ 44 :: 34 :: 112 :: 34 :: 58 :: (s ++ [125]))
def qB (s t : Bs) : Bs := 123 :: 34 :: 112 :: 34 :: 58 :: (s ++ 44 :: 34 :: 112 :: 34 :: 58 :: (t ++ [125]))
theorem valueAt_obj (m k : Nat) (X : Bs) (hk : k < 200) : value (m + 1) k (123 :: X) = match row 125 (oneField (value m)) [] (k + 1) (123 :: X) with
      | .error e => .error e
      | .ok (s, k', r') => .ok (Sum.inr (Sum.inr s), k', r') := by
  obtain ⟨hb, hsk⟩ := value_row (m := m) (k := k) (c := 123) (X := X) hk (Or.inr rfl)
  rw [value, if_neg (by simp [hb]), hsk, if_neg (show ¬ hd (123 :: X) = 91 from by show ¬ (123 : UInt8) = 91; decide), if_pos (show hd (123 :: X) = 123 from rfl)]
  cases row 125 (oneField (value m)) [] (k + 1) (123 :: X) <;> rfl
theorem rowAt_obj {σ : Type} (one : σ → Nat → Bs → Except Nat (σ × Nat × Bs)) (s : σ) (k : Nat) (X : Bs) : row 125 one s k (123 :: 34 :: X) = rowGo 125 one (X.length + 3) s k (34 :: X) := by
  rw [row, List.tail_cons, skip_not (show blank (hd (34 :: X)) = false from rfl), if_neg (show ¬ hd (34 :: X) = 125 from by show ¬ (34 : UInt8) = 125; decide)]
  rfl
theorem name_p {α : Type} (X : Bs) : nameE ([] : List (Bs × α)) (34 :: 112 :: 34 :: 58 :: X) = .ok ([112], X) := by
  have h := nameE_told (α := α) (s := []) (nm := [112]) (X := X) (fun c hc => by simp only [List.mem_singleton] at hc; subst hc; rfl) (fun g hg => by cases hg)
  exact h
theorem name_o {α : Type} (v : α) (X : Bs) : nameE [(([112] : Bs), v)] (32 :: 34 :: 111 :: 34 :: 58 :: X) = .ok ([111], X) := by
  have hq := quoted_quote [111] (fun c hc => by simp only [List.mem_singleton] at hc; subst hc; rfl) (58 :: X)
  have hs : skip (32 :: 34 :: 111 :: 34 :: 58 :: X) = quote [111] ++ 58 :: X := rfl
  unfold nameE
  rw [hs, hq]
  simp only []
  rw [if_neg (by simp)]
  have e : skip (58 :: X) = 58 :: X := skip_not rfl
  rw [e, if_pos (show hd (58 :: X) = 58 from rfl)]
  rfl
theorem name_twice {α : Type} (v : α) (X : Bs) : nameE [(([112] : Bs), v)] (34 :: 112 :: 34 :: 58 :: X) = .error 5 := by
  have hq := quoted_quote [112] (fun c hc => by simp only [List.mem_singleton] at hc; subst hc; rfl) (58 :: X)
  have hs : skip (34 :: 112 :: 34 :: 58 :: X) = quote [112] ++ 58 :: X := rfl
  unfold nameE
  rw [hs, hq]
  simp only []
  rw [if_pos (by simp)]
theorem insert_o {α : Type} (v u : α) : insertAt [(([112] : Bs), v)] [111] u = [([111], u), ([112], v)] := by
  have h : less [112] [111] = false := by rfl
  simp [insertAt, h]
theorem insert_p {α : Type} (v : α) : insertAt ([] : List (Bs × α)) [112] v = [([112], v)] := by
  simp [insertAt]
theorem read_v {j i : J 10} (hj : Good 10 j) (hi : Good 10 i) (hl : (tell 10 j).length + (tell 10 i).length ≤ 1900) :
    (∃ x, read (vB (tell 10 j) (tell 10 i)) = .ok x ∧ tell 10 x = vB (tell 10 j) (tell 10 i) ∧ 1 + nodes 10 i + nodes 10 j ≤ 200 ∧ depth 10 i ≤ 9 ∧ depth 10 j ≤ 9) ∨ ((read (vB (tell 10 j) (tell 10 i)) = .error 2 ∨ read (vB (tell 10 j) (tell 10 i)) = .error 4) ∧ (200 < 1 + nodes 10 i + nodes 10 j ∨ 9 < depth 10 i ∨ 9 < depth 10 j)) := by
  have hg : Good 11 (Sum.inr (Sum.inr [([111], i), ([112], j)])) := by
    refine ⟨?_, ?_⟩
    · refine List.Pairwise.cons (fun f hf => ?_) (List.Pairwise.cons (fun f hf => by cases hf) List.Pairwise.nil)
      simp only [List.mem_singleton] at hf
      subst hf
      rfl
    · intro f hf
      simp only [List.mem_cons, List.not_mem_nil, or_false] at hf
      rcases hf with rfl | rfl
      · exact ⟨fun c hc => by simp only [List.mem_singleton] at hc; subst hc; rfl, hi⟩
      · exact ⟨fun c hc => by simp only [List.mem_singleton] at hc; subst hc; rfl, hj⟩
  have ht := told_any 11 _ hg 10 0 [] noDigit_nil (by omega)
  have e1 : tell 11 (Sum.inr (Sum.inr [([111], i), ([112], j)])) = vB (tell 10 j) (tell 10 i) := by
    show 123 :: (commas [quote [111] ++ 58 :: tell 10 i, quote [112] ++ 58 :: tell 10 j] ++ [125]) = _
    have q1 : quote [111] = [34, 111, 34] := rfl
    have q2 : quote [112] = [34, 112, 34] := rfl
    simp [commas, vB, q1, q2]
  have e2 : nodes 11 (Sum.inr (Sum.inr [([111], i), ([112], j)])) = 1 + nodes 10 i + nodes 10 j := by
    show 1 + (nodes 10 i + (nodes 10 j + 0)) = _
    omega
  have e3 : depth 11 (Sum.inr (Sum.inr [([111], i), ([112], j)])) = 1 + max (depth 10 i) (depth 10 j) := by
    show 1 + max (depth 10 i) (max (depth 10 j) 0) = _
    omega
  rw [e1, e2, e3] at ht
  rcases read_of_told ht (by simp [vB]; omega) with ⟨x, a, b, c, d, e, f⟩ | ⟨a, h4⟩ | ⟨a, h4⟩
  · exact Or.inl ⟨x, a, b, e, by omega, by omega⟩
  · exact Or.inr ⟨Or.inl a, Or.inl h4⟩
  · refine Or.inr ⟨Or.inr a, Or.inr ?_⟩
    omega
theorem read_u {j i : J 10} (hj : Good 10 j) (hi : Good 10 i) (hl : (tell 10 j).length + (tell 10 i).length ≤ 1900) :
    (∃ x, read (uB (tell 10 j) (tell 10 i)) = .ok x ∧ tell 10 x = vB (tell 10 j) (tell 10 i) ∧ 1 + nodes 10 i + nodes 10 j ≤ 200 ∧ depth 10 i ≤ 9 ∧ depth 10 j ≤ 9 ∧ read (qB (tell 10 j) (tell 10 i)) = .error 5) ∨ ((read (uB (tell 10 j) (tell 10 i)) = .error 2 ∨ read (uB (tell 10 j) (tell 10 i)) = .error 4) ∧ (200 < 1 + nodes 10 i + nodes 10 j ∨ 9 < depth 10 i ∨ 9 < depth 10 j)) := by
  have hU : read (uB (tell 10 j) (tell 10 i)) = match value 10 0 (uB (tell 10 j) (tell 10 i)) with
    | .error e => .error e
    | .ok (j, _, r) => if skip r = [] then .ok j else .error eSyntax := by
    unfold read
    rw [if_neg (by simp [uB]; omega)]
    cases value 10 0 (uB (tell 10 j) (tell 10 i)) <;> rfl
  have hQ : read (qB (tell 10 j) (tell 10 i)) = match value 10 0 (qB (tell 10 j) (tell 10 i)) with
    | .error e => .error e
    | .ok (j, _, r) => if skip r = [] then .ok j else .error eSyntax := by
    unfold read
    rw [if_neg (by simp [qB]; omega)]
    cases value 10 0 (qB (tell 10 j) (tell 10 i)) <;> rfl
  rw [hU, hQ]
  unfold uB qB
  rw [valueAt_obj 9 0 _ (by omega), valueAt_obj 9 0 _ (by omega), rowAt_obj, rowAt_obj]
  have h1 := told_any 10 j hj 9 1 (44 :: 32 :: 34 :: 111 :: 34 :: 58 :: (tell 10 i ++ [125])) (by show isDigit 44 = false; decide) (by omega)
  have h1q := told_any 10 j hj 9 1 (44 :: 34 :: 112 :: 34 :: 58 :: (tell 10 i ++ [125])) (by show isDigit 44 = false; decide) (by omega)
  rw [rowGo, oneField, name_p]
  simp only []
  rcases h1 with ⟨j', hv, ht, hn, hd', h200, hm⟩ | ⟨hv, h200⟩ | ⟨hv, hm⟩
  · rcases h1q with ⟨j2, hv2, ht2, hn2, hd2, _, _⟩ | ⟨_, h⟩ | ⟨_, h⟩
    · rw [hv]
      simp only []
      rw [insert_p]
      have hs1 : skip (44 :: 32 :: 34 :: 111 :: 34 :: 58 :: (tell 10 i ++ [125])) = 44 :: 32 :: 34 :: 111 :: 34 :: 58 :: (tell 10 i ++ [125]) := skip_not rfl
      rw [hs1, if_neg (show ¬ hd (44 :: 32 :: 34 :: 111 :: 34 :: 58 :: (tell 10 i ++ [125])) = 125 from by show ¬ (44 : UInt8) = 125; decide), if_pos (show hd (44 :: 32 :: 34 :: 111 :: 34 :: 58 :: (tell 10 i ++ [125])) = 44 from rfl), List.tail_cons]
      rw [rowGo, oneField, name_o]
      simp only []
      have h2 := told_any 10 i hi 9 (1 + nodes 10 j) [125] (by show isDigit 125 = false; decide) h200
      rcases h2 with ⟨i', hw, htw, hnw, hdw, hk2, hm2⟩ | ⟨hw, hk2⟩ | ⟨hw, hm2⟩
      · refine Or.inl ⟨Sum.inr (Sum.inr [([111], i'), ([112], j')]), ?_, ?_, by omega, by omega, by omega, ?_⟩
        · rw [hw]
          simp only []
          rw [insert_o]
          rfl
        · show 123 :: (commas [quote [111] ++ 58 :: tell 9 i', quote [112] ++ 58 :: tell 9 j'] ++ [125]) = _
          rw [htw, ht]
          have q1 : quote [111] = [34, 111, 34] := rfl
          have q2 : quote [112] = [34, 112, 34] := rfl
          simp [commas, vB, q1, q2]
        · rw [rowGo, oneField, name_p]
          simp only []
          rw [hv2]
          simp only []
          rw [insert_p]
          have hs2 : skip (44 :: 34 :: 112 :: 34 :: 58 :: (tell 10 i ++ [125])) = 44 :: 34 :: 112 :: 34 :: 58 :: (tell 10 i ++ [125]) := skip_not rfl
          rw [hs2, if_neg (show ¬ hd (44 :: 34 :: 112 :: 34 :: 58 :: (tell 10 i ++ [125])) = 125 from by show ¬ (44 : UInt8) = 125; decide), if_pos (show hd (44 :: 34 :: 112 :: 34 :: 58 :: (tell 10 i ++ [125])) = 44 from rfl), List.tail_cons]
          rw [rowGo, oneField, name_twice]
      · refine Or.inr ⟨Or.inl ?_, Or.inl (by omega)⟩
        rw [hw]
      · refine Or.inr ⟨Or.inr ?_, Or.inr (Or.inl hm2)⟩
        rw [hw]
    · omega
    · omega
  · refine Or.inr ⟨Or.inl ?_, Or.inl (by omega)⟩
    rw [hv]
  · refine Or.inr ⟨Or.inr ?_, Or.inr (Or.inr hm)⟩
    rw [hv]
end Go.Proofs.YticnpaagnnaicaaDoor
