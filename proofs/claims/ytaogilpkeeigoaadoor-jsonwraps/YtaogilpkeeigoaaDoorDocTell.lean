/- Plain facts: what is told is read as it was, wherever there is room. -/
import Derived.Test.YtaogilpkeeigoaaDoorDocGood
import Derived.Test.YtaogilpkeeigoaaDoorDocErr
namespace Go.Proofs.YtaogilpkeeigoaaDoor
set_option linter.unusedVariables false
set_option linter.unusedSimpArgs false
def noDigit (r : Bs) : Prop := isDigit (hd r) = false
theorem digit_of (m : Nat) (h : m < 10) : isDigit (UInt8.ofNat (48 + m)) = true ∧ (UInt8.ofNat (48 + m)).toNat = 48 + m := by
  have e : (UInt8.ofNat (48 + m)).toNat = 48 + m := by simp; omega
  exact ⟨(digit_iff _).2 (by omega), e⟩
theorem dec_digits : ∀ (k u : Nat), u < 10 ^ k → ∀ c ∈ Lib.decDigits u, isDigit c = true
  | 0, u, hu, c, hc => by
    have : u = 0 := by simpa using hu
    subst this
    rw [Lib.decDigits] at hc
    simp at hc
    subst hc
    decide
  | k + 1, u, hu, c, hc => by
    rw [Lib.decDigits] at hc
    split at hc
    · have hc := List.mem_singleton.1 hc
      subst hc
      exact (digit_of u (by assumption)).1
    · rcases List.mem_append.1 hc with hc | hc
      · exact dec_digits k (u / 10) (by rw [Nat.pow_succ] at hu; omega) c hc
      · have hc := List.mem_singleton.1 hc
        subst hc
        exact (digit_of (u % 10) (by omega)).1
theorem decV_snoc (ds : Bs) (c : UInt8) : decV (ds ++ [c]) = 10 * decV ds + (c.toNat - 48) := by
  unfold decV
  rw [List.foldl_append]
  rfl
theorem dec_val : ∀ (k u : Nat), u < 10 ^ k → decV (Lib.decDigits u) = u
  | 0, u, hu => by
    have : u = 0 := by simpa using hu
    subst this
    rw [Lib.decDigits]
    rfl
  | k + 1, u, hu => by
    rw [Lib.decDigits]
    split
    · rename_i h
      have := (digit_of u h).2
      show 10 * 0 + ((UInt8.ofNat (48 + u)).toNat - 48) = u
      omega
    · rw [decV_snoc, dec_val k (u / 10) (by rw [Nat.pow_succ] at hu; omega), (digit_of (u % 10) (by omega)).2]
      omega
theorem dec_first : ∀ (k u : Nat), u < 10 ^ k → 1 ≤ u → hd (Lib.decDigits u) ≠ 48
  | 0, u, hu, h1 => by simp at hu; omega
  | k + 1, u, hu, h1 => by
    rw [Lib.decDigits]
    split
    · rename_i h
      intro e
      have h2 := (digit_of u h).2
      have e' : UInt8.ofNat (48 + u) = 48 := e
      rw [e'] at h2
      have : (48 : UInt8).toNat = 48 := rfl
      omega
    · have ih := dec_first k (u / 10) (by rw [Nat.pow_succ] at hu; omega) (by omega)
      have hne := dec_ne (u / 10)
      cases hd' : Lib.decDigits (u / 10) with
      | nil => exact absurd hd' hne
      | cons c r =>
        rw [hd'] at ih
        exact ih
theorem dec_len' : ∀ (k u : Nat), 1 ≤ k → u < 10 ^ k → (Lib.decDigits u).length ≤ k
  | 0, u, h, _ => by omega
  | k + 1, u, _, hu => by
    rw [Lib.decDigits]
    split
    · simp
    · rename_i h10
      cases k with
      | zero => simp at hu; omega
      | succ k =>
        have := dec_len' (k + 1) (u / 10) (by omega) (by rw [Nat.pow_succ] at hu; omega)
        simp only [List.length_append, List.length_cons, List.length_nil]
        omega
theorem take_digits {ds r : Bs} (h : ∀ c ∈ ds, isDigit c = true) (hr : noDigit r) : (ds ++ r).takeWhile isDigit = ds ∧ (ds ++ r).dropWhile isDigit = r := by
  induction ds with
  | nil =>
    cases r with
    | nil => exact ⟨rfl, rfl⟩
    | cons c r =>
      have hc : isDigit c = false := hr
      simp [List.takeWhile_cons, List.dropWhile_cons, hc]
  | cons d ds ih =>
    have h1 := h d (by simp)
    have h2 := ih (fun c hc => h c (by simp [hc]))
    simp [List.takeWhile_cons, List.dropWhile_cons, h1, h2]
theorem number_dec (below : Bool) (u : Nat) (r : Bs) (hu : u < 10 ^ 18) (hb : below = true → 1 ≤ u) (hr : noDigit r) :
    number ((if below then [45] else []) ++ (Lib.decDigits u ++ r)) = .ok (some (Sum.inr (Sum.inl (if below then -(u : Int) else (u : Int)))), r) := by
  have hdg := dec_digits 18 u hu
  have hv := dec_val 18 u hu
  have hl := dec_len' 18 u (by decide) hu
  have hne := dec_ne u
  have htd := take_digits hdg hr
  have hfirst : hd (Lib.decDigits u) ≠ 45 ∧ (hd (Lib.decDigits u ++ r) = hd (Lib.decDigits u)) := by
    cases hd' : Lib.decDigits u with
    | nil => exact absurd hd' hne
    | cons c t =>
      have hc := (digit_iff c).1 (hdg c (by rw [hd']; simp))
      refine ⟨?_, rfl⟩
      intro e
      have e' : c = 45 := e
      rw [e'] at hc
      have : (45 : UInt8).toNat = 45 := rfl
      omega
  cases below with
  | true =>
    have h1 := hb rfl
    have hf := dec_first 18 u hu h1
    show number (45 :: (Lib.decDigits u ++ r)) = _
    unfold number
    have e1 : (hd (45 :: (Lib.decDigits u ++ r)) == 45) = true := rfl
    simp only [e1, if_true, List.tail_cons, htd.1, htd.2]
    rw [if_neg hne, if_neg (fun e => hf e.1), if_neg (by omega)]
    simp only [numVal, if_true, hv]
  | false =>
    show number (Lib.decDigits u ++ r) = _
    unfold number
    have e1 : (hd (Lib.decDigits u ++ r) == 45) = false := by
      rw [hfirst.2]
      exact beq_eq_false_iff_ne.2 hfirst.1
    simp only [e1, Bool.false_eq_true, if_false, htd.1, htd.2]
    rw [if_neg hne, if_neg, if_neg (by omega)]
    · simp only [numVal, Bool.false_eq_true, if_false, hv]
    · rintro ⟨h1, h2⟩
      rcases h2 with h2 | h2
      · cases h2
      · by_cases h0 : u = 0
        · subst h0
          rw [Lib.decDigits] at h2
          simp at h2
        · exact dec_first 18 u hu (by omega) h1
/-- how a leaf that is told begins, and that it is read -/
theorem leafE_tell (l : Leaf) (h : GoodLeaf l) (r : Bs) (hr : noDigit r) : leafE (tellLeaf l ++ r) = .ok (l, r) ∧ hd (tellLeaf l ++ r) ∈ opens ∧ blank (hd (tellLeaf l ++ r)) = false ∧ hd (tellLeaf l ++ r) ≠ 91 ∧ hd (tellLeaf l ++ r) ≠ 123 := by
  match l, h with
  | none, _ =>
    refine ⟨?_, by show (110 : UInt8) ∈ opens; decide, rfl, by show (110 : UInt8) ≠ 91; decide, by show (110 : UInt8) ≠ 123; decide⟩
    show leafE (nullB ++ r) = _
    unfold leafE
    rw [if_pos (show hd (nullB ++ r) = 110 from rfl), word, if_pos (List.isPrefixOf_iff_prefix.2 (List.prefix_append _ _))]
    simp
  | some (Sum.inl true), _ =>
    refine ⟨?_, by show (116 : UInt8) ∈ opens; decide, rfl, by show (116 : UInt8) ≠ 91; decide, by show (116 : UInt8) ≠ 123; decide⟩
    show leafE (trueB ++ r) = _
    unfold leafE
    rw [if_neg (by show (116 : UInt8) ≠ 110; decide), if_pos (show hd (trueB ++ r) = 116 from rfl), word, if_pos (List.isPrefixOf_iff_prefix.2 (List.prefix_append _ _))]
    simp
  | some (Sum.inl false), _ =>
    refine ⟨?_, by show (102 : UInt8) ∈ opens; decide, rfl, by show (102 : UInt8) ≠ 91; decide, by show (102 : UInt8) ≠ 123; decide⟩
    show leafE (falseB ++ r) = _
    unfold leafE
    rw [if_neg (by show (102 : UInt8) ≠ 110; decide), if_neg (by show (102 : UInt8) ≠ 116; decide), if_pos (show hd (falseB ++ r) = 102 from rfl), word, if_pos (List.isPrefixOf_iff_prefix.2 (List.prefix_append _ _))]
    simp
  | some (Sum.inr (Sum.inr s)), h =>
    refine ⟨?_, by show (34 : UInt8) ∈ opens; decide, rfl, by show (34 : UInt8) ≠ 91; decide, by show (34 : UInt8) ≠ 123; decide⟩
    show leafE (quote s ++ r) = _
    unfold leafE
    have e : hd (quote s ++ r) = 34 := rfl
    rw [e]
    rw [if_neg (by decide), if_neg (by decide), if_neg (by decide), if_pos rfl, textE, quoted_quote s h r]
  | some (Sum.inr (Sum.inl i)), h =>
    have h1 : -1000000000000000000 < i := h.1
    have h2 : i < 1000000000000000000 := h.2
    obtain ⟨below, u, hi, hit, hu, hb⟩ : ∃ (below : Bool) (u : Nat), i = (if below then -(u : Int) else (u : Int)) ∧ Lib.itoa i = (if below then [45] else []) ++ Lib.decDigits u ∧ u < 10 ^ 18 ∧ (below = true → 1 ≤ u) := by
      by_cases hneg : i < 0
      · exact ⟨true, i.natAbs, by simp; omega, by unfold Lib.itoa; rw [if_pos hneg]; rfl, by omega, fun _ => by omega⟩
      · exact ⟨false, i.toNat, by simp; omega, by unfold Lib.itoa; rw [if_neg hneg]; rfl, by omega, fun e => by cases e⟩
    have hn := number_dec below u r hu hb hr
    have hdg := dec_digits 18 u hu
    have hne := dec_ne u
    show leafE (Lib.itoa i ++ r) = _ ∧ hd (Lib.itoa i ++ r) ∈ opens ∧ blank (hd (Lib.itoa i ++ r)) = false ∧ hd (Lib.itoa i ++ r) ≠ 91 ∧ hd (Lib.itoa i ++ r) ≠ 123
    rw [hit, List.append_assoc]
    have hhd : hd ((if below then [45] else []) ++ (Lib.decDigits u ++ r)) = 45 ∨ (48 ≤ (hd ((if below then [45] else []) ++ (Lib.decDigits u ++ r))).toNat ∧ (hd ((if below then [45] else []) ++ (Lib.decDigits u ++ r))).toNat ≤ 57) := by
      cases below with
      | true => exact Or.inl rfl
      | false =>
        right
        cases hd' : Lib.decDigits u with
        | nil => exact absurd hd' hne
        | cons c t => exact (digit_iff c).1 (hdg c (by rw [hd']; simp))
    generalize hX : (if below then [45] else []) ++ (Lib.decDigits u ++ r) = X at *
    have hfacts : hd X ∈ opens ∧ blank (hd X) = false ∧ hd X ≠ 91 ∧ hd X ≠ 123 ∧ hd X ≠ 110 ∧ hd X ≠ 116 ∧ hd X ≠ 102 ∧ hd X ≠ 34 := by
      generalize hd X = c at hhd
      rcases hhd with rfl | ⟨ha, hb'⟩
      · decide
      · have hne' : ∀ m : Nat, m < 256 → (m < 48 ∨ 57 < m) → c ≠ UInt8.ofNat m := by
          intro m hm hm2 e
          subst e
          have : (UInt8.ofNat m).toNat = m := by simp; omega
          omega
        refine ⟨?_, ?_, hne' 91 (by decide) (by decide), hne' 123 (by decide) (by decide), hne' 110 (by decide) (by decide), hne' 116 (by decide) (by decide), hne' 102 (by decide) (by decide), hne' 34 (by decide) (by decide)⟩
        · have hall : ∀ m : Fin 10, UInt8.ofNat (48 + m.val) ∈ opens := by decide
          have hc : c = UInt8.ofNat (48 + (c.toNat - 48)) := by
            apply UInt8.toNat_inj.1
            simp
            omega
          rw [hc]
          exact hall ⟨c.toNat - 48, by omega⟩
        · have h32 := hne' 32 (by decide) (by decide)
          have h10 := hne' 10 (by decide) (by decide)
          have h9 := hne' 9 (by decide) (by decide)
          have e32 : UInt8.ofNat 32 = 32 := rfl
          have e10 : UInt8.ofNat 10 = 10 := rfl
          have e9 : UInt8.ofNat 9 = 9 := rfl
          rw [e32] at h32
          rw [e10] at h10
          rw [e9] at h9
          simp [blank, h32, h10, h9]
    refine ⟨?_, hfacts.1, hfacts.2.1, hfacts.2.2.1, hfacts.2.2.2.1⟩
    unfold leafE
    rw [if_neg hfacts.2.2.2.2.1, if_neg hfacts.2.2.2.2.2.1, if_neg hfacts.2.2.2.2.2.2.1, if_neg hfacts.2.2.2.2.2.2.2, hn, ← hi]
theorem skip_not {r : Bs} (h : blank (hd r) = false) : skip r = r := by
  cases r with
  | nil => rfl
  | cons c r =>
    have hc : blank c = false := h
    rw [skip, if_neg (by simp [hc])]
/-- what comes of reading what is told, at whatever depth and count -/
def Told (m k : Nat) (t : Bs) (many deep : Nat) (r : Bs) : Prop :=
  (∃ j' : J m, value m k (t ++ r) = .ok (j', k + many, r) ∧ tell m j' = t ∧ nodes m j' = many ∧ depth m j' = deep ∧ k + many ≤ 200 ∧ deep ≤ m) ∨
    (value m k (t ++ r) = .error 2 ∧ 200 < k + many) ∨ (value m k (t ++ r) = .error 4 ∧ m < deep)
theorem tell_leafJ (m : Nat) (l : Leaf) : tell m (leaf m l) = tellLeaf l ∧ nodes m (leaf m l) = 1 ∧ depth m (leaf m l) = 0 := by
  cases m <;> exact ⟨rfl, rfl, rfl⟩
theorem value_first {m k : Nat} {r : Bs} (hb : blank (hd r) = false) (ho : hd r ∈ opens) : (200 ≤ k → value m k r = .error 2) ∧ (k < 200 → m = 0 → (hd r = 91 ∨ hd r = 123) → value m k r = .error 4) := by
  have hsk := skip_not hb
  refine ⟨fun hk => ?_, fun hk hm hc => ?_⟩
  · have e : beginE m k (skip r) = 2 := by
      rw [hsk]
      unfold beginE
      rw [if_neg (by simpa using ho), if_pos hk]
    cases m with
    | zero => rw [value, if_pos (by rw [e]; decide), e]
    | succ m => rw [value, if_pos (by rw [e]; decide), e]
  · subst hm
    have e : beginE 0 k (skip r) = 4 := by
      rw [hsk]
      unfold beginE
      rw [if_neg (by simpa using ho), if_neg (by omega), if_pos ⟨rfl, hc⟩]
    rw [value, if_pos (by rw [e]; decide), e]
theorem told_leaf (m k : Nat) (l : Leaf) (h : GoodLeaf l) (r : Bs) (hr : noDigit r) (hk : k ≤ 200) : Told m k (tellLeaf l) 1 0 r := by
  obtain ⟨hl, ho, hb, h91, h123⟩ := leafE_tell l h r hr
  have hv := value_first (m := m) (k := k) hb ho
  have hsk := skip_not hb
  by_cases h200 : 200 ≤ k
  · exact Or.inr (Or.inl ⟨hv.1 h200, by omega⟩)
  · have e : beginE m k (skip (tellLeaf l ++ r)) = 0 := by
      rw [hsk]
      unfold beginE
      rw [if_neg (by simpa using ho), if_neg h200, if_neg]
      rintro ⟨_, h1 | h1⟩
      · exact h91 h1
      · exact h123 h1
    have hval : value m k (tellLeaf l ++ r) = .ok (leaf m l, k + 1, r) := by
      cases m with
      | zero => rw [value, if_neg (by simp [e]), leafAt, hsk, hl]
      | succ m => rw [value, if_neg (by simp [e]), hsk, if_neg h91, if_neg h123, leafAt, hl]
    have ht := tell_leafJ m l
    exact Or.inl ⟨leaf m l, hval, ht.1, ht.2.1, ht.2.2, by omega, Nat.zero_le _⟩
end Go.Proofs.YtaogilpkeeigoaaDoor
