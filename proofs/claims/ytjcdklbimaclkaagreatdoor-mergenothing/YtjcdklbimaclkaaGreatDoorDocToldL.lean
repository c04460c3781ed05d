/- Plain facts: what is told of a value is read as just that value, wherever there is room. -/
import Derived.Test.YtjcdklbimaclkaaGreatDoorDocTold
import Derived.Test.YtjcdklbimaclkaaGreatDoorDocLift
import Derived.Test.YtjcdklbimaclkaaGreatDoorDocSize
namespace Go.Proofs.YtjcdklbimaclkaaGreatDoor
set_option linter.unusedVariables false
set_option linter.unusedSimpArgs false
/-- what comes of reading what is told, at whatever depth and count -/
def ToldL (n : Nat) (j : J n) (m k : Nat) (r : Bs) : Prop :=
  (value m k (tell n j ++ r) = .ok (lift n m j, k + nodes n j, r) ∧ k + nodes n j ≤ 200 ∧ depth n j ≤ m) ∨
    (value m k (tell n j ++ r) = .error 2 ∧ 200 < k + nodes n j) ∨ (value m k (tell n j ++ r) = .error 4 ∧ m < depth n j)
def ToldLAt (n : Nat) : Prop := ∀ (j : J n), Good n j → ∀ (m k : Nat) (r : Bs), noDigit r → k ≤ 200 → ToldL n j m k r
theorem leaf_value (m k : Nat) (l : Leaf) (h : GoodLeaf l) (r : Bs) (hr : noDigit r) (hk : k ≤ 200) : (value m k (tellLeaf l ++ r) = .ok (leaf m l, k + 1, r) ∧ k + 1 ≤ 200 ∧ 0 ≤ m) ∨ (value m k (tellLeaf l ++ r) = .error 2 ∧ 200 < k + 1) ∨ (value m k (tellLeaf l ++ r) = .error 4 ∧ m < 0) := by
  obtain ⟨hl, ho, hb, h91, h123⟩ := leafE_tell l h r hr
  have hv := value_first (m := m) (k := k) hb ho
  have hsk := skip_not hb
  by_cases h200 : 200 ≤ k
  · exact Or.inr (Or.inl ⟨hv.1 h200, by omega⟩)
  · have e : beginE m k (skip (tellLeaf l ++ r)) = 0 := by
      rw [hsk]
      unfold beginE
      rw [if_neg (by simpa using ho), if_neg h200, if_neg]
      rintro ⟨_, h1 | h1⟩
      · exact h91 h1
      · exact h123 h1
    have hval : value m k (tellLeaf l ++ r) = .ok (leaf m l, k + 1, r) := by
      cases m with
      | zero => rw [value, if_neg (by simp [e]), leafAt, hsk, hl]
      | succ m => rw [value, if_neg (by simp [e]), hsk, if_neg h91, if_neg h123, leafAt, hl]
    exact Or.inl ⟨hval, by omega, Nat.zero_le _⟩
theorem items_toldL {n : Nat} (ih : ToldLAt n) (m : Nat) (r : Bs) : ∀ (rest : List (J n)) (x : J n) (f : Nat) (s : List (J m)) (k : Nat), (∀ y ∈ x :: rest, Good n y) → rest.length < f → k ≤ 200 →
    RowTold m (rowGo 93 (oneItem (value m)) f s k (commas ((x :: rest).map (tell n)) ++ 93 :: r)) (fun s' => s' = s ++ (x :: rest).map (lift n m)) k ((x :: rest).map (nodes n)).sum (maxOf ((x :: rest).map (depth n))) r
  | [], x, 0, s, k, hG, hf, hk => by omega
  | [], x, f + 1, s, k, hG, hf, hk => by
    have h1 := ih x (hG x (by simp)) m k (93 :: r) (by show isDigit 93 = false; decide) hk
    have e : commas (([x] : List (J n)).map (tell n)) ++ 93 :: r = tell n x ++ 93 :: r := rfl
    rw [e]
    have em : (([x] : List (J n)).map (nodes n)).sum = nodes n x := by simp
    have ed : maxOf (([x] : List (J n)).map (depth n)) = depth n x := by simp [maxOf]
    rw [em, ed]
    rcases h1 with ⟨hv, h200, hm⟩ | ⟨hv, h200⟩ | ⟨hv, hm⟩
    · refine Or.inl ⟨s ++ [lift n m x], ?_, rfl, h200, hm⟩
      rw [rowGo, oneItem, hv]
      rfl
    · refine Or.inr (Or.inl ⟨?_, h200⟩)
      rw [rowGo, oneItem, hv]
    · refine Or.inr (Or.inr ⟨?_, hm⟩)
      rw [rowGo, oneItem, hv]
  | y :: rest, x, 0, s, k, hG, hf, hk => by omega
  | y :: rest, x, f + 1, s, k, hG, hf, hk => by
    have h1 := ih x (hG x (by simp)) m k (44 :: (commas ((y :: rest).map (tell n)) ++ 93 :: r)) (by show isDigit 44 = false; decide) hk
    have e : commas ((x :: y :: rest).map (tell n)) ++ 93 :: r = tell n x ++ 44 :: (commas ((y :: rest).map (tell n)) ++ 93 :: r) := by
      simp [commas]
    rw [e]
    have em : ((x :: y :: rest).map (nodes n)).sum = nodes n x + ((y :: rest).map (nodes n)).sum := by simp
    have ed : maxOf ((x :: y :: rest).map (depth n)) = max (depth n x) (maxOf ((y :: rest).map (depth n))) := rfl
    rw [em, ed]
    rcases h1 with ⟨hv, h200, hm⟩ | ⟨hv, h200⟩ | ⟨hv, hm⟩
    · have ih2 := items_toldL ih m r rest y f (s ++ [lift n m x]) (k + nodes n x) (fun z hz => hG z (by simp at hz ⊢; exact Or.inr hz)) (by simp at hf; omega) h200
      have hgo : rowGo 93 (oneItem (value m)) (f + 1) s k (tell n x ++ 44 :: (commas ((y :: rest).map (tell n)) ++ 93 :: r)) = rowGo 93 (oneItem (value m)) f (s ++ [lift n m x]) (k + nodes n x) (commas ((y :: rest).map (tell n)) ++ 93 :: r) := by
        rw [rowGo, oneItem, hv]
        rfl
      rw [hgo]
      rcases ih2 with ⟨s', hr, rfl, h4, h5⟩ | ⟨hr, h4⟩ | ⟨hr, h4⟩
      · refine Or.inl ⟨_, ?_, rfl, by omega, by omega⟩
        rw [hr]
        simp [Nat.add_assoc]
      · exact Or.inr (Or.inl ⟨hr, by omega⟩)
      · exact Or.inr (Or.inr ⟨hr, by omega⟩)
    · refine Or.inr (Or.inl ⟨?_, by omega⟩)
      rw [rowGo, oneItem, hv]
    · refine Or.inr (Or.inr ⟨?_, by omega⟩)
      rw [rowGo, oneItem, hv]
theorem told_listL {n : Nat} (ih : ToldLAt n) (xs : List (J n)) (hG : ∀ x ∈ xs, Good n x) (m k : Nat) (r : Bs) (hr : noDigit r) (hk : k ≤ 200) :
    ToldL (n + 1) (Sum.inr (Sum.inl xs)) m k r := by
  have et : tell (n + 1) (Sum.inr (Sum.inl xs)) = 91 :: (commas (xs.map (tell n)) ++ [93]) := rfl
  have en : nodes (n + 1) (Sum.inr (Sum.inl xs)) = 1 + (xs.map (nodes n)).sum := rfl
  have ed : depth (n + 1) (Sum.inr (Sum.inl xs)) = 1 + maxOf (xs.map (depth n)) := rfl
  have eX : tell (n + 1) (Sum.inr (Sum.inl xs)) ++ r = 91 :: (commas (xs.map (tell n)) ++ 93 :: r) := by rw [et]; simp
  unfold ToldL
  rw [eX, en, ed]
  have hv := value_first (m := m) (k := k) (r := 91 :: (commas (xs.map (tell n)) ++ 93 :: r)) rfl (by show (91 : UInt8) ∈ opens; decide)
  by_cases h200 : 200 ≤ k
  · exact Or.inr (Or.inl ⟨hv.1 h200, by omega⟩)
  cases m with
  | zero => exact Or.inr (Or.inr ⟨hv.2 (by omega) rfl (Or.inl rfl), by omega⟩)
  | succ m =>
    obtain ⟨hb, hsk⟩ := value_row (m := m) (k := k) (c := 91) (X := commas (xs.map (tell n)) ++ 93 :: r) (by omega) (Or.inl rfl)
    have hval : value (m + 1) k (91 :: (commas (xs.map (tell n)) ++ 93 :: r)) = match row 93 (oneItem (value m)) [] (k + 1) (91 :: (commas (xs.map (tell n)) ++ 93 :: r)) with
      | .error e => .error e
      | .ok (s, k', r') => .ok (Sum.inr (Sum.inl s), k', r') := by
      rw [value, if_neg (by simp [hb]), hsk, if_pos (show hd (91 :: (commas (xs.map (tell n)) ++ 93 :: r)) = 91 from rfl)]
      cases row 93 (oneItem (value m)) [] (k + 1) (91 :: (commas (xs.map (tell n)) ++ 93 :: r)) <;> rfl
    have hrow : RowTold m (row 93 (oneItem (value m)) [] (k + 1) (91 :: (commas (xs.map (tell n)) ++ 93 :: r))) (fun s' => s' = xs.map (lift n m)) (k + 1) (xs.map (nodes n)).sum (maxOf (xs.map (depth n))) r := by
      cases xs with
      | nil =>
        refine Or.inl ⟨[], ?_, rfl, by simp; omega, by simp [maxOf]⟩
        rfl
      | cons x rest =>
        have hh := tell_hd n x (hG x (by simp)) (match rest.map (tell n) with | [] => 93 :: r | _ :: _ => 44 :: (commas (rest.map (tell n)) ++ 93 :: r)) (by cases rest.map (tell n) <;> rfl)
        have eC : commas ((x :: rest).map (tell n)) ++ 93 :: r = tell n x ++ (match rest.map (tell n) with | [] => 93 :: r | _ :: _ => 44 :: (commas (rest.map (tell n)) ++ 93 :: r)) := commas_cons (tell n x) (rest.map (tell n)) (93 :: r)
        rw [← eC] at hh
        have hi := items_toldL ih m r rest x ((91 :: (commas ((x :: rest).map (tell n)) ++ 93 :: r)).length + 1) [] (k + 1) hG (by
          have := commas_ge ((x :: rest).map (tell n))
          simp only [List.length_map, List.length_cons, List.length_append] at this ⊢
          omega) (by omega)
        have hne : hd (commas ((x :: rest).map (tell n)) ++ 93 :: r) ≠ 93 := by
          intro e
          rw [e] at hh
          exact absurd hh.1 (by decide)
        have hgo : row 93 (oneItem (value m)) [] (k + 1) (91 :: (commas ((x :: rest).map (tell n)) ++ 93 :: r)) = rowGo 93 (oneItem (value m)) ((91 :: (commas ((x :: rest).map (tell n)) ++ 93 :: r)).length + 1) [] (k + 1) (commas ((x :: rest).map (tell n)) ++ 93 :: r) := by
          rw [row, List.tail_cons, skip_not hh.2, if_neg hne]
        rw [hgo]
        rcases hi with ⟨s', h1, rfl, h5, h6⟩ | h | h
        · exact Or.inl ⟨_, h1, by simp, h5, h6⟩
        · exact Or.inr (Or.inl h)
        · exact Or.inr (Or.inr h)
    rw [hval]
    rcases hrow with ⟨s', h1, rfl, h5, h6⟩ | ⟨h1, h5⟩ | ⟨h1, h5⟩
    · refine Or.inl ⟨?_, by omega, by omega⟩
      rw [h1]
      simp only [Nat.add_assoc]
      rfl
    · exact Or.inr (Or.inl ⟨by rw [h1], by omega⟩)
    · exact Or.inr (Or.inr ⟨by rw [h1], by omega⟩)
theorem fields_toldL {n : Nat} (ih : ToldLAt n) (m : Nat) (r : Bs) : ∀ (rest : List (Bs × J n)) (x : Bs × J n) (f : Nat) (s : List (Bs × J m)) (k : Nat), (∀ y ∈ x :: rest, (∀ c ∈ y.1, meant c = true) ∧ Good n y.2) → Rising (x :: rest) → (∀ g ∈ s, ∀ y ∈ x :: rest, less g.1 y.1 = true) → rest.length < f → k ≤ 200 →
    RowTold m (rowGo 125 (oneField (value m)) f s k (commas ((x :: rest).map (fieldT n)) ++ 125 :: r)) (fun s' => s' = s ++ (x :: rest).map (fun f => (f.1, lift n m f.2))) k ((x :: rest).map (fun f => nodes n f.2)).sum (maxOf ((x :: rest).map (fun f => depth n f.2))) r
  | [], x, 0, s, k, hG, hR, hs, hf, hk => by omega
  | [], x, f + 1, s, k, hG, hR, hs, hf, hk => by
    have hx := hG x (by simp)
    have h1 := ih x.2 hx.2 m k (125 :: r) (by show isDigit 125 = false; decide) hk
    have e : commas (([x] : List (Bs × J n)).map (fieldT n)) ++ 125 :: r = quote x.1 ++ 58 :: (tell n x.2 ++ 125 :: r) := by simp [commas, fieldT]
    have hn := nameE_told (X := tell n x.2 ++ 125 :: r) hx.1 (fun g hg => hs g hg x (by simp))
    rw [e]
    have em : (([x] : List (Bs × J n)).map (fun f => nodes n f.2)).sum = nodes n x.2 := by simp
    have ed : maxOf (([x] : List (Bs × J n)).map (fun f => depth n f.2)) = depth n x.2 := by simp [maxOf]
    rw [em, ed]
    rcases h1 with ⟨hv, h200, hm⟩ | ⟨hv, h200⟩ | ⟨hv, hm⟩
    · refine Or.inl ⟨s ++ [(x.1, lift n m x.2)], ?_, rfl, h200, hm⟩
      rw [rowGo, oneField, hn]
      simp only [hv]
      rw [insert_end_of (lift n m x.2) (fun g hg => hs g hg x (by simp))]
      rfl
    · refine Or.inr (Or.inl ⟨?_, h200⟩)
      rw [rowGo, oneField, hn]
      simp only [hv]
    · refine Or.inr (Or.inr ⟨?_, hm⟩)
      rw [rowGo, oneField, hn]
      simp only [hv]
  | y :: rest, x, 0, s, k, hG, hR, hs, hf, hk => by omega
  | y :: rest, x, f + 1, s, k, hG, hR, hs, hf, hk => by
    have hx := hG x (by simp)
    have h1 := ih x.2 hx.2 m k (44 :: (commas ((y :: rest).map (fieldT n)) ++ 125 :: r)) (by show isDigit 44 = false; decide) hk
    have e : commas ((x :: y :: rest).map (fieldT n)) ++ 125 :: r = quote x.1 ++ 58 :: (tell n x.2 ++ 44 :: (commas ((y :: rest).map (fieldT n)) ++ 125 :: r)) := by simp [commas, fieldT]
    have hn := nameE_told (X := tell n x.2 ++ 44 :: (commas ((y :: rest).map (fieldT n)) ++ 125 :: r)) hx.1 (fun g hg => hs g hg x (by simp))
    rw [e]
    have em : ((x :: y :: rest).map (fun f => nodes n f.2)).sum = nodes n x.2 + ((y :: rest).map (fun f => nodes n f.2)).sum := by simp
    have ed : maxOf ((x :: y :: rest).map (fun f => depth n f.2)) = max (depth n x.2) (maxOf ((y :: rest).map (fun f => depth n f.2))) := rfl
    rw [em, ed]
    have hR' := List.pairwise_cons.1 hR
    rcases h1 with ⟨hv, h200, hm⟩ | ⟨hv, h200⟩ | ⟨hv, hm⟩
    · have ih2 := fields_toldL ih m r rest y f (s ++ [(x.1, lift n m x.2)]) (k + nodes n x.2) (fun z hz => hG z (by simp at hz ⊢; exact Or.inr hz)) hR'.2 (fun g hg z hz => by
          rcases List.mem_append.1 hg with hg | hg
          · exact hs g hg z (by simp at hz ⊢; exact Or.inr hz)
          · have hg := List.mem_singleton.1 hg
            subst hg
            exact hR'.1 z hz) (by simp at hf; omega) h200
      have hgo : rowGo 125 (oneField (value m)) (f + 1) s k (quote x.1 ++ 58 :: (tell n x.2 ++ 44 :: (commas ((y :: rest).map (fieldT n)) ++ 125 :: r))) = rowGo 125 (oneField (value m)) f (s ++ [(x.1, lift n m x.2)]) (k + nodes n x.2) (commas ((y :: rest).map (fieldT n)) ++ 125 :: r) := by
        rw [rowGo, oneField, hn]
        simp only [hv]
        rw [insert_end_of (lift n m x.2) (fun g hg => hs g hg x (by simp))]
        rfl
      rw [hgo]
      rcases ih2 with ⟨s', hr, rfl, h4, h5⟩ | ⟨hr, h4⟩ | ⟨hr, h4⟩
      · refine Or.inl ⟨_, ?_, rfl, by omega, by omega⟩
        rw [hr]
        simp [Nat.add_assoc]
      · exact Or.inr (Or.inl ⟨hr, by omega⟩)
      · exact Or.inr (Or.inr ⟨hr, by omega⟩)
    · refine Or.inr (Or.inl ⟨?_, by omega⟩)
      rw [rowGo, oneField, hn]
      simp only [hv]
    · refine Or.inr (Or.inr ⟨?_, by omega⟩)
      rw [rowGo, oneField, hn]
      simp only [hv]
theorem told_objectL {n : Nat} (ih : ToldLAt n) (fs : List (Bs × J n)) (hR : Rising fs) (hG : ∀ f ∈ fs, (∀ c ∈ f.1, meant c = true) ∧ Good n f.2) (m k : Nat) (r : Bs) (hr : noDigit r) (hk : k ≤ 200) :
    ToldL (n + 1) (Sum.inr (Sum.inr fs)) m k r := by
  have et : tell (n + 1) (Sum.inr (Sum.inr fs)) = 123 :: (commas (fs.map (fieldT n)) ++ [125]) := rfl
  have en : nodes (n + 1) (Sum.inr (Sum.inr fs)) = 1 + (fs.map (fun f => nodes n f.2)).sum := rfl
  have ed : depth (n + 1) (Sum.inr (Sum.inr fs)) = 1 + maxOf (fs.map (fun f => depth n f.2)) := rfl
  have eX : tell (n + 1) (Sum.inr (Sum.inr fs)) ++ r = 123 :: (commas (fs.map (fieldT n)) ++ 125 :: r) := by rw [et]; simp
  unfold ToldL
  rw [eX, en, ed]
  have hv := value_first (m := m) (k := k) (r := 123 :: (commas (fs.map (fieldT n)) ++ 125 :: r)) rfl (by show (123 : UInt8) ∈ opens; decide)
  by_cases h200 : 200 ≤ k
  · exact Or.inr (Or.inl ⟨hv.1 h200, by omega⟩)
  cases m with
  | zero => exact Or.inr (Or.inr ⟨hv.2 (by omega) rfl (Or.inr rfl), by omega⟩)
  | succ m =>
    obtain ⟨hb, hsk⟩ := value_row (m := m) (k := k) (c := 123) (X := commas (fs.map (fieldT n)) ++ 125 :: r) (by omega) (Or.inr rfl)
    have hval : value (m + 1) k (123 :: (commas (fs.map (fieldT n)) ++ 125 :: r)) = match row 125 (oneField (value m)) [] (k + 1) (123 :: (commas (fs.map (fieldT n)) ++ 125 :: r)) with
      | .error e => .error e
      | .ok (s, k', r') => .ok (Sum.inr (Sum.inr s), k', r') := by
      rw [value, if_neg (by simp [hb]), hsk, if_neg (show ¬ hd (123 :: (commas (fs.map (fieldT n)) ++ 125 :: r)) = 91 from by show ¬ (123 : UInt8) = 91; decide), if_pos (show hd (123 :: (commas (fs.map (fieldT n)) ++ 125 :: r)) = 123 from rfl)]
      cases row 125 (oneField (value m)) [] (k + 1) (123 :: (commas (fs.map (fieldT n)) ++ 125 :: r)) <;> rfl
    have hrow : RowTold m (row 125 (oneField (value m)) [] (k + 1) (123 :: (commas (fs.map (fieldT n)) ++ 125 :: r))) (fun s' => s' = fs.map (fun f => (f.1, lift n m f.2))) (k + 1) (fs.map (fun f => nodes n f.2)).sum (maxOf (fs.map (fun f => depth n f.2))) r := by
      cases fs with
      | nil =>
        refine Or.inl ⟨[], ?_, rfl, by simp; omega, by simp [maxOf]⟩
        rfl
      | cons x rest =>
        have hi := fields_toldL ih m r rest x ((123 :: (commas ((x :: rest).map (fieldT n)) ++ 125 :: r)).length + 1) [] (k + 1) hG hR (fun g hg => by simp at hg) (by
          have := commas_ge ((x :: rest).map (fieldT n))
          simp only [List.length_map, List.length_cons, List.length_append] at this ⊢
          omega) (by omega)
        have hh : hd (commas ((x :: rest).map (fieldT n)) ++ 125 :: r) = 34 := by
          cases rest <;> rfl
        have hgo : row 125 (oneField (value m)) [] (k + 1) (123 :: (commas ((x :: rest).map (fieldT n)) ++ 125 :: r)) = rowGo 125 (oneField (value m)) ((123 :: (commas ((x :: rest).map (fieldT n)) ++ 125 :: r)).length + 1) [] (k + 1) (commas ((x :: rest).map (fieldT n)) ++ 125 :: r) := by
          rw [row, List.tail_cons, skip_not (by rw [hh]; rfl), if_neg (by rw [hh]; decide)]
        rw [hgo]
        rcases hi with ⟨s', h1, rfl, h5, h6⟩ | h | h
        · exact Or.inl ⟨_, h1, by simp, h5, h6⟩
        · exact Or.inr (Or.inl h)
        · exact Or.inr (Or.inr h)
    rw [hval]
    rcases hrow with ⟨s', h1, rfl, h5, h6⟩ | ⟨h1, h5⟩ | ⟨h1, h5⟩
    · refine Or.inl ⟨?_, by omega, by omega⟩
      rw [h1]
      simp only [Nat.add_assoc]
      rfl
    · exact Or.inr (Or.inl ⟨by rw [h1], by omega⟩)
    · exact Or.inr (Or.inr ⟨by rw [h1], by omega⟩)
theorem told_anyL : ∀ n, ToldLAt n
  | 0 => fun j h m k r hr hk => leaf_value m k j h r hr hk
  | n + 1 => fun j h m k r hr hk => by
    have ih := told_anyL n
    match j, h with
    | Sum.inl l, h => exact leaf_value m k l h r hr hk
    | Sum.inr (Sum.inl xs), h => exact told_listL ih xs h m k r hr hk
    | Sum.inr (Sum.inr fs), h => exact told_objectL ih fs h.1 h.2 m k r hr hk
/-- what is told of a value within the limits is read as that value -/
theorem read_told {n : Nat} {j : J n} (hg : Good n j) (hn : nodes n j ≤ 200) (hd' : depth n j ≤ 10) (hl : (tell n j).length ≤ 2000) : read (tell n j) = .ok (lift n 10 j) := by
  have h := told_anyL n j hg 10 0 [] noDigit_nil (by omega)
  unfold ToldL at h
  rw [List.append_nil] at h
  unfold read
  rw [if_neg (by omega)]
  rcases h with ⟨hv, h1, h2⟩ | ⟨hv, h1⟩ | ⟨hv, h1⟩
  · rw [hv]
    rfl
  · omega
  · omega
end Go.Proofs.YtjcdklbimaclkaaGreatDoor
