/- Plain facts: lists and objects that are told and cut; so every value; what begins a canonical document that is no number, and isn't all of it, is none. -/
import Derived.Test.YticnpaagnnaicaaDoorDocCut
namespace Go.Proofs.YticnpaagnnaicaaDoor
set_option linter.unusedVariables false
set_option linter.unusedSimpArgs false
theorem valueCut_list (m k : Nat) (X : Bs) (hk : k < 200) : value (m + 1) k (91 :: X) = match row 93 (oneItem (value m)) [] (k + 1) (91 :: X) with
      | .error e => .error e
      | .ok (s, k', r') => .ok (Sum.inr (Sum.inl s), k', r') := by
  obtain ⟨hb, hsk⟩ := value_row (m := m) (k := k) (c := 91) (X := X) hk (Or.inl rfl)
  rw [value, if_neg (by simp [hb]), hsk, if_pos (show hd (91 :: X) = 91 from rfl)]
  cases row 93 (oneItem (value m)) [] (k + 1) (91 :: X) <;> rfl
theorem valueCut_object (m k : Nat) (X : Bs) (hk : k < 200) : value (m + 1) k (123 :: X) = match row 125 (oneField (value m)) [] (k + 1) (123 :: X) with
      | .error e => .error e
      | .ok (s, k', r') => .ok (Sum.inr (Sum.inr s), k', r') := by
  obtain ⟨hb, hsk⟩ := value_row (m := m) (k := k) (c := 123) (X := X) hk (Or.inr rfl)
  rw [value, if_neg (by simp [hb]), hsk, if_neg (show ¬ hd (123 :: X) = 91 from by show ¬ (123 : UInt8) = 91; decide), if_pos (show hd (123 :: X) = 123 from rfl)]
  cases row 125 (oneField (value m)) [] (k + 1) (123 :: X) <;> rfl
theorem row_cut {σ : Type} {z c : UInt8} {one : σ → Nat → Bs → Except Nat (σ × Nat × Bs)} {s : σ} {k : Nat} {p : Bs} (hsk : skip p = p) (hz : hd p ≠ z) (h : ∀ f, rowGo z one f s k p = .error 3) : row z one s k (c :: p) = .error 3 := by
  rw [row, List.tail_cons, hsk, if_neg hz]
  exact h _
theorem cut_list {n : Nat} (ih : CutAt n) (xs : List (J n)) (hG : ∀ x ∈ xs, Good n x) (m k : Nat) (p : Bs) (hk : k + nodes (n + 1) (Sum.inr (Sum.inl xs)) ≤ 200) (hd' : depth (n + 1) (Sum.inr (Sum.inl xs)) ≤ m) (hb : Begins p (tell (n + 1) (Sum.inr (Sum.inl xs)))) : value m k p = .error 3 := by
  have et : tell (n + 1) (Sum.inr (Sum.inl xs)) = 91 :: (commas (xs.map (tell n)) ++ [93]) := rfl
  have hk2 : k + (1 + (xs.map (nodes n)).sum) ≤ 200 := hk
  have hd2 : 1 + maxOf (xs.map (depth n)) ≤ m := hd'
  rw [et] at hb
  rcases begins_cons hb with h0 | ⟨p', h0, h⟩
  · subst h0
    exact value_nil m k
  · subst h0
    cases m with
    | zero => omega
    | succ m =>
      rw [valueCut_list m k p' (by omega)]
      cases xs with
      | nil =>
        have := begins_one (p := p') (c := 93) h
        subst this
        rw [row_cut (z := 93) (s := []) (k := k + 1) (p := []) rfl (by show (0 : UInt8) ≠ 93; decide) (fun f => rowGo_err3 (item_err (value_nil m (k + 1))))]
      | cons x rest =>
        have hh := tell_hd n x (hG x (by simp)) (match rest.map (tell n) with | [] => [93] | _ :: _ => 44 :: (commas (rest.map (tell n)) ++ [93])) (by cases rest.map (tell n) <;> rfl)
        have eC : commas ((x :: rest).map (tell n)) ++ [93] = tell n x ++ (match rest.map (tell n) with | [] => [93] | _ :: _ => 44 :: (commas (rest.map (tell n)) ++ [93])) := commas_cons (tell n x) (rest.map (tell n)) [93]
        rw [← eC] at hh
        have hne : hd p' ≠ 93 := by
          by_cases hp : p' = []
          · subst hp
            show (0 : UInt8) ≠ 93
            decide
          · rw [begins_hd h hp]
            intro e
            rw [e] at hh
            exact absurd hh.1 (by decide)
        rw [row_cut (skip_begins h hh.2) hne (fun f => cut_items ih m rest x f [] (k + 1) p' hG (by omega) (by omega) h)]
theorem cut_object {n : Nat} (ih : CutAt n) (fs : List (Bs × J n)) (hR : Rising fs) (hG : ∀ f ∈ fs, (∀ c ∈ f.1, meant c = true) ∧ Good n f.2) (m k : Nat) (p : Bs) (hk : k + nodes (n + 1) (Sum.inr (Sum.inr fs)) ≤ 200) (hd' : depth (n + 1) (Sum.inr (Sum.inr fs)) ≤ m) (hb : Begins p (tell (n + 1) (Sum.inr (Sum.inr fs)))) : value m k p = .error 3 := by
  have et : tell (n + 1) (Sum.inr (Sum.inr fs)) = 123 :: (commas (fs.map (fieldT n)) ++ [125]) := rfl
  have hk2 : k + (1 + (fs.map (fun f => nodes n f.2)).sum) ≤ 200 := hk
  have hd2 : 1 + maxOf (fs.map (fun f => depth n f.2)) ≤ m := hd'
  rw [et] at hb
  rcases begins_cons hb with h0 | ⟨p', h0, h⟩
  · subst h0
    exact value_nil m k
  · subst h0
    cases m with
    | zero => omega
    | succ m =>
      rw [valueCut_object m k p' (by omega)]
      cases fs with
      | nil =>
        have := begins_one (p := p') (c := 125) h
        subst this
        rw [row_cut (z := 125) (s := []) (k := k + 1) (p := []) rfl (by show (0 : UInt8) ≠ 125; decide) (fun f => rowGo_err3 (field_name rfl))]
      | cons x rest =>
        have hh : hd (commas ((x :: rest).map (fieldT n)) ++ [125]) = 34 := by cases rest <;> rfl
        have hne : hd p' ≠ 125 := by
          by_cases hp : p' = []
          · subst hp
            show (0 : UInt8) ≠ 125
            decide
          · rw [begins_hd h hp, hh]
            decide
        rw [row_cut (skip_begins h (by rw [hh]; rfl)) hne (fun f => cut_fields ih m rest x f [] (k + 1) p' hG hR (fun g hg => by cases hg) (by omega) (by omega) h)]
theorem cut_any : ∀ n, CutAt n
  | 0 => fun j h m k p hk hd' hb => cut_leaf m k j h (by have : nodes 0 j = 1 := rfl; omega) p hb
  | n + 1 => fun j h m k p hk hd' hb => by
    have ih := cut_any n
    match j, h, hk, hd', hb with
    | Sum.inl l, h, hk, hd', hb => exact cut_leaf m k l h (by have : nodes (n + 1) (Sum.inl l) = 1 := rfl; omega) p hb
    | Sum.inr (Sum.inl xs), h, hk, hd', hb => exact Or.inl (cut_list ih xs h m k p hk hd' hb)
    | Sum.inr (Sum.inr fs), h, hk, hd', hb => exact Or.inl (cut_object ih fs h.1 h.2 m k p hk hd' hb)
theorem read_cut {s p : Bs} {j : J 10} (h : read s = .ok j) (hn : kindJ 10 j ≠ 3) (hb : Begins p (tell 10 j)) : read p = .error 3 := by
  have hz := read_size h
  have hs := read_short h
  have hl : p.length ≤ 2000 := by
    obtain ⟨c, q, e⟩ := hb
    have := congrArg List.length e
    simp only [List.length_append, List.length_cons] at this
    omega
  unfold read
  rw [if_neg (by omega)]
  rcases cut_any 10 j (read_good h) 10 0 p (by omega) (by omega) hb with hv | ⟨h3, _⟩
  · rw [hv]
  · exact absurd h3 hn
end Go.Proofs.YticnpaagnnaicaaDoor
