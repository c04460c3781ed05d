/- Plain facts: blanks ahead and behind are of no matter. -/
import Derived.Test.YticnpaagnnaicaaDoorDocSize
namespace Go.Proofs.YticnpaagnnaicaaDoor
set_option linter.unusedVariables false
set_option linter.unusedSimpArgs false
/-- what is laid behind a document -/
def behindB : Bs := [9, 32, 10]
def addT {σ : Type} : Except Nat (σ × Nat × Bs) → Except Nat (σ × Nat × Bs)
  | .error e => .error e
  | .ok (s, k, r) => .ok (s, k, r ++ behindB)
def addL {σ : Type} : Except Nat (σ × Bs) → Except Nat (σ × Bs)
  | .error e => .error e
  | .ok (s, r) => .ok (s, r ++ behindB)
theorem skip_behind : skip behindB = [] := by rfl
theorem skip_tail : ∀ r : Bs, skip (r ++ behindB) = if skip r = [] then [] else skip r ++ behindB
  | [] => by rfl
  | c :: r => by
    have ih := skip_tail r
    rw [List.cons_append, skip, skip]
    by_cases h : blank c = true
    · rw [if_pos h, if_pos h]
      exact ih
    · rw [if_neg h, if_neg h, if_neg (by simp), List.cons_append]
theorem hd_skip_tail (r : Bs) : hd (skip (r ++ behindB)) = hd (skip r) := by
  rw [skip_tail]
  split
  · rename_i h
    rw [h]
  · rename_i h
    cases hs : skip r with
    | nil => exact absurd hs h
    | cons c l => rfl
theorem ne_of_hd {r : Bs} {c : UInt8} (h : hd r = c) (h0 : c ≠ 0) : r ≠ [] := by
  intro e
  rw [e] at h
  exact h0 h.symm
theorem tail_skip_tail {r : Bs} (h : skip r ≠ []) : (skip (r ++ behindB)).tail = (skip r).tail ++ behindB := by
  rw [skip_tail, if_neg h]
  cases hs : skip r with
  | nil => exact absurd hs h
  | cons c l => rfl
theorem prefix_tail : ∀ (w r : Bs), (9 : UInt8) ∉ w → w.isPrefixOf (r ++ behindB) = w.isPrefixOf r
  | [], r, _ => by simp
  | c :: w, [], h => by
    have hc : c ≠ 9 := fun e => h (by simp [e])
    have e : (c == 9) = false := by simpa using hc
    show ((c == 9) && w.isPrefixOf [32, 10]) = false
    rw [e]
    rfl
  | c :: w, d :: r, h => by
    have ih := prefix_tail w r (fun hh => h (by simp [hh]))
    show ((c == d) && w.isPrefixOf (r ++ behindB)) = ((c == d) && w.isPrefixOf r)
    rw [ih]
theorem word_tail (w r : Bs) (l : Leaf) (h : (9 : UInt8) ∉ w) : word w (r ++ behindB) l = addL (word w r l) := by
  unfold word
  rw [prefix_tail w r h]
  by_cases hp : w.isPrefixOf r = true
  · rw [if_pos hp, if_pos hp]
    have hl := (List.isPrefixOf_iff_prefix.1 hp).length_le
    rw [List.drop_append_of_le_length hl]
    rfl
  · rw [if_neg hp, if_neg hp]
    rfl
theorem signs_tail : ∀ (n : Nat) (r : Bs), r.length ≤ n → signs (r ++ behindB) = (signs r).map fun p => (p.1, p.2 ++ behindB)
  | n, [], _ => by
    rw [signs_nil]
    show signs (9 :: [32, 10]) = none
    rw [signs_cons]
    rfl
  | 0, c :: r, h => by simp at h
  | n + 1, c :: r, h => by
    have hl : r.length ≤ n := by simpa using h
    rw [List.cons_append, signs_cons, signs_cons]
    by_cases h34 : c = 34
    · rw [if_pos h34, if_pos h34]
      rfl
    · rw [if_neg h34, if_neg h34]
      by_cases h92 : c = 92
      · rw [if_pos h92, if_pos h92]
        cases r with
        | nil => rfl
        | cons d r' =>
          simp only [List.cons_append]
          by_cases hm : meaning d = 0
          · rw [if_pos hm, if_pos hm]
            rfl
          · rw [if_neg hm, if_neg hm, signs_tail n r' (by simp at hl; omega)]
            cases signs r' <;> rfl
      · rw [if_neg h92, if_neg h92]
        by_cases hp : plain c = true
        · rw [if_pos hp, if_pos hp, signs_tail n r hl]
          cases signs r <;> rfl
        · rw [if_neg hp, if_neg hp]
          rfl
theorem quoted_tail (r : Bs) : quoted (r ++ behindB) = (quoted r).map fun p => (p.1, p.2 ++ behindB) := by
  cases r with
  | nil => rfl
  | cons c r =>
    unfold quoted
    have e1 : hd (c :: r ++ behindB) = c := rfl
    have e2 : hd (c :: r) = c := rfl
    rw [e1, e2]
    by_cases h : c = 34
    · rw [if_pos h, if_pos h]
      exact signs_tail r.length r (Nat.le_refl _)
    · rw [if_neg h, if_neg h]
      rfl
theorem take_tail : ∀ r : Bs, (r ++ behindB).takeWhile isDigit = r.takeWhile isDigit ∧ (r ++ behindB).dropWhile isDigit = r.dropWhile isDigit ++ behindB
  | [] => ⟨by rfl, by rfl⟩
  | c :: r => by
    have ih := take_tail r
    rw [List.cons_append, List.takeWhile_cons, List.takeWhile_cons, List.dropWhile_cons, List.dropWhile_cons]
    by_cases h : isDigit c = true
    · rw [if_pos h, if_pos h, if_pos h, if_pos h, ih.1, ih.2]
      exact ⟨rfl, rfl⟩
    · rw [if_neg h, if_neg h, if_neg h, if_neg h]
      exact ⟨rfl, rfl⟩
theorem number_tail (c : UInt8) (r : Bs) : number (c :: r ++ behindB) = addL (number (c :: r)) := by
  unfold number
  have e1 : hd (c :: r ++ behindB) = c := rfl
  have e2 : hd (c :: r) = c := rfl
  simp only [e1, e2]
  have e3 : (if (c == 45) = true then (c :: r ++ behindB).tail else c :: r ++ behindB) = (if (c == 45) = true then (c :: r).tail else c :: r) ++ behindB := by
    split <;> rfl
  rw [e3]
  generalize (if (c == 45) = true then (c :: r).tail else c :: r) = r1
  rw [(take_tail r1).1, (take_tail r1).2]
  split
  · rfl
  · split
    · rfl
    · split
      · rfl
      · rfl
theorem leafE_tail (c : UInt8) (r : Bs) : leafE (c :: r ++ behindB) = addL (leafE (c :: r)) := by
  unfold leafE
  have e1 : hd (c :: r ++ behindB) = c := rfl
  have e2 : hd (c :: r) = c := rfl
  rw [e1, e2]
  by_cases h1 : c = 110
  · rw [if_pos h1, if_pos h1]
    exact word_tail _ _ _ (by decide)
  rw [if_neg h1, if_neg h1]
  by_cases h2 : c = 116
  · rw [if_pos h2, if_pos h2]
    exact word_tail _ _ _ (by decide)
  rw [if_neg h2, if_neg h2]
  by_cases h3 : c = 102
  · rw [if_pos h3, if_pos h3]
    exact word_tail _ _ _ (by decide)
  rw [if_neg h3, if_neg h3]
  by_cases h4 : c = 34
  · rw [if_pos h4, if_pos h4]
    unfold textE
    rw [quoted_tail]
    cases quoted (c :: r) <;> rfl
  rw [if_neg h4, if_neg h4]
  exact number_tail c r
theorem rowGo_fuel {σ : Type} {z : UInt8} {one : σ → Nat → Bs → Except Nat (σ × Nat × Bs)} (h : ∀ s k r s' k' r', one s k r = .ok (s', k', r') → r'.length < r.length) : ∀ (f f' : Nat) (s : σ) (k : Nat) (r : Bs), r.length < f → r.length < f' → rowGo z one f s k r = rowGo z one f' s k r
  | 0, f', s, k, r, h1, h2 => by omega
  | f + 1, 0, s, k, r, h1, h2 => by omega
  | f + 1, f' + 1, s, k, r, h1, h2 => by
    rw [rowGo, rowGo]
    cases ho : one s k r with
    | error e => rfl
    | ok p =>
      obtain ⟨s1, k1, r1⟩ := p
      simp only []
      split
      · rfl
      · split
        · have hl := h _ _ _ _ _ _ ho
          have hs := skip_le r1
          have ht : (skip r1).tail.length ≤ (skip r1).length := by simp
          exact rowGo_fuel h f f' s1 k1 _ (by omega) (by omega)
        · rfl
theorem rowGo_tail {σ : Type} {z : UInt8} {one : σ → Nat → Bs → Except Nat (σ × Nat × Bs)} (hz : z ≠ 0) (h : ∀ s k r, one s k (r ++ behindB) = addT (one s k r)) : ∀ (f : Nat) (s : σ) (k : Nat) (r : Bs), rowGo z one f s k (r ++ behindB) = addT (rowGo z one f s k r)
  | 0, s, k, r => rfl
  | f + 1, s, k, r => by
    rw [rowGo, rowGo, h]
    cases ho : one s k r with
    | error e => rfl
    | ok p =>
      obtain ⟨s1, k1, r1⟩ := p
      simp only [addT]
      rw [hd_skip_tail]
      by_cases h1 : hd (skip r1) = z
      · rw [if_pos h1, if_pos h1, tail_skip_tail (ne_of_hd h1 hz)]
      · rw [if_neg h1, if_neg h1]
        by_cases h2 : hd (skip r1) = 44
        · rw [if_pos h2, if_pos h2, tail_skip_tail (ne_of_hd h2 (by decide))]
          exact rowGo_tail hz h f s1 k1 _
        · rw [if_neg h2, if_neg h2]
theorem row_tail {σ : Type} {z : UInt8} {one : σ → Nat → Bs → Except Nat (σ × Nat × Bs)} (hz : z ≠ 0) (h : ∀ s k r, one s k (r ++ behindB) = addT (one s k r)) (hs : ∀ s k r s' k' r', one s k r = .ok (s', k', r') → r'.length < r.length) (h0 : ∀ s k, one s k [] = .error 3) (s : σ) (k : Nat) (c : UInt8) (r : Bs) : row z one s k (c :: r ++ behindB) = addT (row z one s k (c :: r)) := by
  unfold row
  rw [List.cons_append, List.tail_cons, List.tail_cons, hd_skip_tail]
  by_cases h1 : hd (skip r) = z
  · rw [if_pos h1, if_pos h1, tail_skip_tail (ne_of_hd h1 hz)]
    rfl
  · rw [if_neg h1, if_neg h1]
    by_cases he : skip r = []
    · rw [skip_tail, if_pos he, he]
      rw [rowGo, rowGo, h0]
      rfl
    · rw [skip_tail, if_neg he, rowGo_tail hz h]
      have hl := skip_le r
      rw [rowGo_fuel hs ((c :: (r ++ behindB)).length + 1) ((c :: r).length + 1) s k (skip r) (by simp only [List.length_cons, List.length_append]; omega) (by simp only [List.length_cons]; omega)]
theorem value_less {n k : Nat} {r : Bs} {j : J n} {k' : Nat} {r' : Bs} (h : value n k r = .ok (j, k', r')) : r'.length < r.length := by
  have h1 := value_short n k r j k' r' h
  have h2 := tell_ne n j
  have h3 : 0 < (tell n j).length := by
    cases ht : tell n j with
    | nil => exact absurd ht h2
    | cons c l => simp
  omega
theorem item_less {n : Nat} (s : List (J n)) (k : Nat) (r : Bs) (s' : List (J n)) (k' : Nat) (r' : Bs) (h : oneItem (value n) s k r = .ok (s', k', r')) : r'.length < r.length := by
  obtain ⟨v, hv, _⟩ := oneItem_ok h
  exact value_less hv
theorem field_less {n : Nat} (s : List (Bs × J n)) (k : Nat) (r : Bs) (s' : List (Bs × J n)) (k' : Nat) (r' : Bs) (h : oneField (value n) s k r = .ok (s', k', r')) : r'.length < r.length := by
  obtain ⟨nm, v, r1, hn, hv, _⟩ := oneField_ok h
  obtain ⟨q, hq, _, _, rfl⟩ := nameE_ok hn
  have h1 := value_less hv
  have h2 : (quote nm).length + q.length ≤ (skip r).length := (quoted_meant hq).2
  have h3 := skip_le r
  have h4 := skip_le q
  have h5 : (skip q).tail.length ≤ (skip q).length := by simp
  omega
theorem nameE_tail {α : Type} (fs : List (Bs × α)) (r : Bs) : nameE fs (r ++ behindB) = addL (nameE fs r) := by
  unfold nameE
  have hq : quoted (skip (r ++ behindB)) = (quoted (skip r)).map fun p => (p.1, p.2 ++ behindB) := by
    rw [skip_tail]
    split
    · rename_i h
      rw [h]
      rfl
    · exact quoted_tail _
  rw [hq]
  cases quoted (skip r) with
  | none => rfl
  | some p =>
    simp only [Option.map_some]
    split
    · rfl
    · rw [hd_skip_tail]
      by_cases h1 : hd (skip p.2) = 58
      · rw [if_pos h1, if_pos h1, tail_skip_tail (ne_of_hd h1 (by decide))]
        rfl
      · rw [if_neg h1, if_neg h1]
        rfl
theorem begin_tail (n k : Nat) (r : Bs) : beginE n k (skip (r ++ behindB)) = beginE n k (skip r) := by
  unfold beginE
  rw [hd_skip_tail]
theorem begin_ne {n k : Nat} {r : Bs} (h : beginE n k (skip r) = 0) : ∃ c l, skip r = c :: l := by
  cases hs : skip r with
  | nil =>
    rw [hs] at h
    unfold beginE at h
    rw [if_pos (show ¬ hd [] ∈ opens from by show ¬ (0 : UInt8) ∈ opens; decide)] at h
    cases h
  | cons c l => exact ⟨c, l, rfl⟩
theorem value_empty (m k : Nat) : value m k [] = .error 3 := by
  have e : beginE m k (skip []) = 3 := by
    show beginE m k [] = 3
    unfold beginE
    rw [if_pos (show ¬ hd [] ∈ opens from by show ¬ (0 : UInt8) ∈ opens; decide)]
  cases m with
  | zero => rw [value, if_pos (by rw [e]; decide), e]
  | succ m => rw [value, if_pos (by rw [e]; decide), e]
theorem leafAt_tail (n k : Nat) (c : UInt8) (r : Bs) : leafAt n k (c :: r ++ behindB) = addT (leafAt n k (c :: r)) := by
  unfold leafAt
  rw [leafE_tail]
  cases leafE (c :: r) <;> rfl
theorem value_tail : ∀ (n k : Nat) (r : Bs), value n k (r ++ behindB) = addT (value n k r)
  | 0, k, r => by
    rw [value, value, begin_tail]
    by_cases h : beginE 0 k (skip r) = 0
    · have h' : ¬ beginE 0 k (skip r) ≠ 0 := by simp [h]
      rw [if_neg h', if_neg h']
      obtain ⟨c, l, e⟩ := begin_ne h
      rw [skip_tail, if_neg (show ¬ skip r = [] from by rw [e]; simp), e]
      exact leafAt_tail 0 k c l
    · rw [if_pos h, if_pos h]
      rfl
  | n + 1, k, r => by
    have ih := value_tail n
    rw [value, value, begin_tail]
    by_cases h : beginE (n + 1) k (skip r) = 0
    · have h' : ¬ beginE (n + 1) k (skip r) ≠ 0 := by simp [h]
      rw [if_neg h', if_neg h']
      obtain ⟨c, l, e⟩ := begin_ne h
      rw [hd_skip_tail, skip_tail, if_neg (show ¬ skip r = [] from by rw [e]; simp), e]
      by_cases h91 : hd (c :: l) = 91
      · rw [if_pos h91, if_pos h91, row_tail (by decide) (fun s k r => by
          rw [oneItem, oneItem, ih]
          cases value n k r <;> rfl) item_less (fun s k => by rw [oneItem, value_empty])]
        cases row 93 (oneItem (value n)) [] (k + 1) (c :: l) <;> rfl
      · rw [if_neg h91, if_neg h91]
        by_cases h123 : hd (c :: l) = 123
        · rw [if_pos h123, if_pos h123, row_tail (by decide) (fun s k r => by
            rw [oneField, oneField, nameE_tail]
            cases hn : nameE s r with
            | error e => rfl
            | ok p =>
              obtain ⟨nm, r1⟩ := p
              simp only [addL]
              rw [ih]
              cases value n k r1 <;> rfl) field_less (fun s k => by rw [oneField]; rfl)]
          cases row 125 (oneField (value n)) [] (k + 1) (c :: l) <;> rfl
        · rw [if_neg h123, if_neg h123]
          exact leafAt_tail (n + 1) k c l
    · rw [if_pos h, if_pos h]
      rfl
theorem skip_ahead : ∀ (b r : Bs), (∀ c ∈ b, blank c = true) → skip (b ++ r) = skip r
  | [], r, _ => rfl
  | c :: b, r, h => by
    rw [List.cons_append, skip, if_pos (h c (by simp))]
    exact skip_ahead b r (fun d hd => h d (by simp [hd]))
theorem value_ahead (n k : Nat) (b r : Bs) (h : ∀ c ∈ b, blank c = true) : value n k (b ++ r) = value n k r := by
  have e := skip_ahead b r h
  cases n with
  | zero => rw [value, value, e]
  | succ n => rw [value, value, e]
theorem read_blanks {b s : Bs} (h : ∀ c ∈ b, blank c = true) (hb : b.length ≤ 90) (hs : s.length ≤ 1900) : read (b ++ s ++ behindB) = read s := by
  unfold read
  have hl : (b ++ s ++ behindB).length = b.length + s.length + 3 := by
    simp [behindB]
    omega
  rw [if_neg (by omega), if_neg (by omega), List.append_assoc, value_ahead 10 0 b _ h, value_tail]
  cases value 10 0 s with
  | error e => rfl
  | ok p =>
    obtain ⟨j, k, r⟩ := p
    simp only [addT]
    have e : (skip (r ++ behindB) = []) ↔ (skip r = []) := by
      rw [skip_tail]
      split
      · rename_i h0
        exact ⟨fun _ => h0, fun _ => rfl⟩
      · rename_i h0
        exact ⟨fun e => absurd e (by simp [behindB]), fun e => absurd e h0⟩
    by_cases h0 : skip r = []
    · rw [if_pos h0, if_pos (e.2 h0)]
    · rw [if_neg h0, if_neg (fun x => h0 (e.1 x))]
end Go.Proofs.YticnpaagnnaicaaDoor
