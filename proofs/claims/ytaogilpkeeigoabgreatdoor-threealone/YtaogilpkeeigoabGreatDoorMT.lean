/- Several texts in one: DocErr, DocTell, DocTold, DocSize, DocToldL, ThrTell, ThrTop, Laid, ThrAt, ThrLaws, TAgainWalk, TAloneWalk. -/
import Derived.Test.YtaogilpkeeigoabGreatDoorDocGood
import Derived.Test.YtaogilpkeeigoabGreatDoorDocShort
import Derived.Test.YtaogilpkeeigoabGreatDoorDocLift
import Derived.Test.YtaogilpkeeigoabGreatDoorTop
import Derived.Test.YtaogilpkeeigoabGreatDoorMeasure
import Derived.Test.YtaogilpkeeigoabGreatDoorThrA
import Derived.Test.YtaogilpkeeigoabGreatDoorThrM
import Derived.Lib.LaidTab
import Derived.MakeChecks
/- Plain facts on what goes wrong: no error is nothing; a document is never empty. -/
namespace Go.Proofs.YtaogilpkeeigoabGreatDoor
set_option linter.unusedVariables false
set_option linter.unusedSimpArgs false
theorem leafE_err {r : Bs} {e : Nat} (h : leafE r = .error e) : e = eSyntax ∨ e = eLarge := by
  unfold leafE at h
  split at h
  · unfold word at h; split at h <;> cases h; exact Or.inl rfl
  · split at h
    · unfold word at h; split at h <;> cases h; exact Or.inl rfl
    · split at h
      · unfold word at h; split at h <;> cases h; exact Or.inl rfl
      · split at h
        · unfold textE at h
          cases hq : quoted r with
          | none => rw [hq] at h; cases h; exact Or.inl rfl
          | some p => rw [hq] at h; cases h
        · unfold number at h
          simp only [] at h
          generalize (if (hd r == 45) = true then r.tail else r) = r1 at h
          split at h
          · cases h; exact Or.inl rfl
          · split at h
            · cases h; exact Or.inl rfl
            · split at h
              · cases h; exact Or.inr rfl
              · cases h
theorem beginE_vals (n k : Nat) (r : Bs) : beginE n k r = 0 ∨ beginE n k r = eSyntax ∨ beginE n k r = eLarge ∨ beginE n k r = eDeep := by
  unfold beginE
  split
  · exact Or.inr (Or.inl rfl)
  · split
    · exact Or.inr (Or.inr (Or.inl rfl))
    · split
      · exact Or.inr (Or.inr (Or.inr rfl))
      · exact Or.inl rfl
def IsErr (e : Nat) : Prop := e = eSyntax ∨ e = eLarge ∨ e = eDeep ∨ e = eTwice
theorem rowGo_err {σ : Type} {z : UInt8} {one : σ → Nat → Bs → Except Nat (σ × Nat × Bs)} (h : ∀ s k r e, one s k r = .error e → IsErr e) : ∀ (f : Nat) (s : σ) (k : Nat) (r : Bs) (e : Nat), rowGo z one f s k r = .error e → IsErr e
  | 0, s, k, r, e, he => by
    simp [rowGo] at he
    exact Or.inl he.symm
  | f + 1, s, k, r, e, he => by
    rw [rowGo] at he
    cases ho : one s k r with
    | error er => rw [ho] at he; cases he; exact h s k r e ho
    | ok p =>
      obtain ⟨s1, k1, r1⟩ := p
      rw [ho] at he
      simp only [] at he
      split at he
      · cases he
      · split at he
        · exact rowGo_err h f s1 k1 _ e he
        · cases he; exact Or.inl rfl
theorem row_err {σ : Type} {z : UInt8} {one : σ → Nat → Bs → Except Nat (σ × Nat × Bs)} (h : ∀ s k r e, one s k r = .error e → IsErr e) (s : σ) (k : Nat) (r : Bs) (e : Nat) (he : row z one s k r = .error e) : IsErr e := by
  unfold row at he
  split at he
  · cases he
  · exact rowGo_err h _ _ _ _ _ he
theorem value_isErr : ∀ (n : Nat) (k : Nat) (r : Bs) (e : Nat), value n k r = .error e → IsErr e
  | 0, k, r, e, h => by
    rw [value] at h
    split at h
    · rename_i h0
      cases h
      rcases beginE_vals 0 k (skip r) with h1 | h1 | h1 | h1
      · exact absurd h1 h0
      · exact Or.inl h1
      · exact Or.inr (Or.inl h1)
      · exact Or.inr (Or.inr (Or.inl h1))
    · unfold leafAt at h
      cases hl : leafE (skip r) with
      | error er =>
        rw [hl] at h
        cases h
        rcases leafE_err hl with h1 | h1
        · exact Or.inl h1
        · exact Or.inr (Or.inl h1)
      | ok p => rw [hl] at h; cases h
  | n + 1, k, r, e, h => by
    rw [value] at h
    split at h
    · rename_i h0
      cases h
      rcases beginE_vals (n + 1) k (skip r) with h1 | h1 | h1 | h1
      · exact absurd h1 h0
      · exact Or.inl h1
      · exact Or.inr (Or.inl h1)
      · exact Or.inr (Or.inr (Or.inl h1))
    · split at h
      · cases hr : row 93 (oneItem (value n)) [] (k + 1) (skip r) with
        | error er =>
          rw [hr] at h
          cases h
          refine row_err (one := oneItem (value n)) (fun s k r e ho => ?_) _ _ _ _ hr
          unfold oneItem at ho
          cases hv : value n k r with
          | error er => rw [hv] at ho; cases ho; exact value_isErr n k r e hv
          | ok p => rw [hv] at ho; cases ho
        | ok p => rw [hr] at h; cases h
      · split at h
        · cases hr : row 125 (oneField (value n)) [] (k + 1) (skip r) with
          | error er =>
            rw [hr] at h
            cases h
            refine row_err (one := oneField (value n)) (fun s k r e ho => ?_) _ _ _ _ hr
            unfold oneField at ho
            cases hn : nameE s r with
            | error er =>
              rw [hn] at ho
              cases ho
              unfold nameE at hn
              cases hq : quoted (skip r) with
              | none => rw [hq] at hn; cases hn; exact Or.inl rfl
              | some p =>
                rw [hq] at hn
                simp only [] at hn
                split at hn
                · cases hn; exact Or.inr (Or.inr (Or.inr rfl))
                · split at hn
                  · cases hn
                  · cases hn; exact Or.inl rfl
            | ok p =>
              obtain ⟨nm, r1⟩ := p
              rw [hn] at ho
              simp only [] at ho
              cases hv : value n k r1 with
              | error er => rw [hv] at ho; cases ho; exact value_isErr n k r1 e hv
              | ok p => rw [hv] at ho; cases ho
          | ok p => rw [hr] at h; cases h
        · unfold leafAt at h
          cases hl : leafE (skip r) with
          | error er =>
            rw [hl] at h
            cases h
            rcases leafE_err hl with h1 | h1
            · exact Or.inl h1
            · exact Or.inr (Or.inl h1)
          | ok p => rw [hl] at h; cases h
theorem read_isErr {s : Bs} {e : Nat} (h : read s = .error e) : IsErr e := by
  unfold read at h
  split at h
  · cases h; exact Or.inr (Or.inl rfl)
  · cases hv : value 10 0 s with
    | error er => rw [hv] at h; cases h; exact value_isErr _ _ _ _ hv
    | ok p =>
      obtain ⟨j1, k1, r1⟩ := p
      rw [hv] at h
      simp only [] at h
      split at h
      · cases h
      · cases h; exact Or.inl rfl
theorem read_err {s : Bs} {e : Nat} (h : read s = .error e) : e ≠ 0 := by
  rcases read_isErr h with rfl | rfl | rfl | rfl <;> decide
theorem dec_ne (u : Nat) : Lib.decDigits u ≠ [] := by
  rw [Lib.decDigits]
  split <;> simp
theorem tellLeaf_ne (l : Leaf) : tellLeaf l ≠ [] := by
  match l with
  | none => simp [tellLeaf, nullB]
  | some (Sum.inl true) => simp [tellLeaf, trueB]
  | some (Sum.inl false) => simp [tellLeaf, falseB]
  | some (Sum.inr (Sum.inl i)) =>
    show Lib.itoa i ≠ []
    unfold Lib.itoa
    split
    · simp
    · exact dec_ne _
  | some (Sum.inr (Sum.inr s)) => simp [tellLeaf, quote]
theorem tell_ne : ∀ (n : Nat) (j : J n), tell n j ≠ []
  | 0, j => tellLeaf_ne j
  | _ + 1, Sum.inl l => tellLeaf_ne l
  | _ + 1, Sum.inr (Sum.inl xs) => List.cons_ne_nil _ _
  | _ + 1, Sum.inr (Sum.inr fs) => List.cons_ne_nil _ _
end Go.Proofs.YtaogilpkeeigoabGreatDoor
/- Plain facts: what is told is read as it was, wherever there is room. -/
namespace Go.Proofs.YtaogilpkeeigoabGreatDoor
set_option linter.unusedVariables false
set_option linter.unusedSimpArgs false
def noDigit (r : Bs) : Prop := isDigit (hd r) = false
theorem digit_of (m : Nat) (h : m < 10) : isDigit (UInt8.ofNat (48 + m)) = true ∧ (UInt8.ofNat (48 + m)).toNat = 48 + m := by
  have e : (UInt8.ofNat (48 + m)).toNat = 48 + m := by simp; omega
  exact ⟨(digit_iff _).2 (by omega), e⟩
theorem dec_digits : ∀ (k u : Nat), u < 10 ^ k → ∀ c ∈ Lib.decDigits u, isDigit c = true
  | 0, u, hu, c, hc => by
    have : u = 0 := by simpa using hu
    subst this
    rw [Lib.decDigits] at hc
    simp at hc
    subst hc
    decide
  | k + 1, u, hu, c, hc => by
    rw [Lib.decDigits] at hc
    split at hc
    · have hc := List.mem_singleton.1 hc
      subst hc
      exact (digit_of u (by assumption)).1
    · rcases List.mem_append.1 hc with hc | hc
      · exact dec_digits k (u / 10) (by rw [Nat.pow_succ] at hu; omega) c hc
      · have hc := List.mem_singleton.1 hc
        subst hc
        exact (digit_of (u % 10) (by omega)).1
theorem decV_snoc (ds : Bs) (c : UInt8) : decV (ds ++ [c]) = 10 * decV ds + (c.toNat - 48) := by
  unfold decV
  rw [List.foldl_append]
  rfl
theorem dec_val : ∀ (k u : Nat), u < 10 ^ k → decV (Lib.decDigits u) = u
  | 0, u, hu => by
    have : u = 0 := by simpa using hu
    subst this
    rw [Lib.decDigits]
    rfl
  | k + 1, u, hu => by
    rw [Lib.decDigits]
    split
    · rename_i h
      have := (digit_of u h).2
      show 10 * 0 + ((UInt8.ofNat (48 + u)).toNat - 48) = u
      omega
    · rw [decV_snoc, dec_val k (u / 10) (by rw [Nat.pow_succ] at hu; omega), (digit_of (u % 10) (by omega)).2]
      omega
theorem dec_first : ∀ (k u : Nat), u < 10 ^ k → 1 ≤ u → hd (Lib.decDigits u) ≠ 48
  | 0, u, hu, h1 => by simp at hu; omega
  | k + 1, u, hu, h1 => by
    rw [Lib.decDigits]
    split
    · rename_i h
      intro e
      have h2 := (digit_of u h).2
      have e' : UInt8.ofNat (48 + u) = 48 := e
      rw [e'] at h2
      have : (48 : UInt8).toNat = 48 := rfl
      omega
    · have ih := dec_first k (u / 10) (by rw [Nat.pow_succ] at hu; omega) (by omega)
      have hne := dec_ne (u / 10)
      cases hd' : Lib.decDigits (u / 10) with
      | nil => exact absurd hd' hne
      | cons c r =>
        rw [hd'] at ih
        exact ih
theorem dec_len' : ∀ (k u : Nat), 1 ≤ k → u < 10 ^ k → (Lib.decDigits u).length ≤ k
  | 0, u, h, _ => by omega
  | k + 1, u, _, hu => by
    rw [Lib.decDigits]
    split
    · simp
    · rename_i h10
      cases k with
      | zero => simp at hu; omega
      | succ k =>
        have := dec_len' (k + 1) (u / 10) (by omega) (by rw [Nat.pow_succ] at hu; omega)
        simp only [List.length_append, List.length_cons, List.length_nil]
        omega
theorem take_digits {ds r : Bs} (h : ∀ c ∈ ds, isDigit c = true) (hr : noDigit r) : (ds ++ r).takeWhile isDigit = ds ∧ (ds ++ r).dropWhile isDigit = r := by
  induction ds with
  | nil =>
    cases r with
    | nil => exact ⟨rfl, rfl⟩
    | cons c r =>
      have hc : isDigit c = false := hr
      simp [List.takeWhile_cons, List.dropWhile_cons, hc]
  | cons d ds ih =>
    have h1 := h d (by simp)
    have h2 := ih (fun c hc => h c (by simp [hc]))
    simp [List.takeWhile_cons, List.dropWhile_cons, h1, h2]
theorem number_dec (below : Bool) (u : Nat) (r : Bs) (hu : u < 10 ^ 18) (hb : below = true → 1 ≤ u) (hr : noDigit r) :
    number ((if below then [45] else []) ++ (Lib.decDigits u ++ r)) = .ok (some (Sum.inr (Sum.inl (if below then -(u : Int) else (u : Int)))), r) := by
  have hdg := dec_digits 18 u hu
  have hv := dec_val 18 u hu
  have hl := dec_len' 18 u (by decide) hu
  have hne := dec_ne u
  have htd := take_digits hdg hr
  have hfirst : hd (Lib.decDigits u) ≠ 45 ∧ (hd (Lib.decDigits u ++ r) = hd (Lib.decDigits u)) := by
    cases hd' : Lib.decDigits u with
    | nil => exact absurd hd' hne
    | cons c t =>
      have hc := (digit_iff c).1 (hdg c (by rw [hd']; simp))
      refine ⟨?_, rfl⟩
      intro e
      have e' : c = 45 := e
      rw [e'] at hc
      have : (45 : UInt8).toNat = 45 := rfl
      omega
  cases below with
  | true =>
    have h1 := hb rfl
    have hf := dec_first 18 u hu h1
    show number (45 :: (Lib.decDigits u ++ r)) = _
    unfold number
    have e1 : (hd (45 :: (Lib.decDigits u ++ r)) == 45) = true := rfl
    simp only [e1, if_true, List.tail_cons, htd.1, htd.2]
    rw [if_neg hne, if_neg (fun e => hf e.1), if_neg (by omega)]
    simp only [numVal, if_true, hv]
  | false =>
    show number (Lib.decDigits u ++ r) = _
    unfold number
    have e1 : (hd (Lib.decDigits u ++ r) == 45) = false := by
      rw [hfirst.2]
      exact beq_eq_false_iff_ne.2 hfirst.1
    simp only [e1, Bool.false_eq_true, if_false, htd.1, htd.2]
    rw [if_neg hne, if_neg, if_neg (by omega)]
    · simp only [numVal, Bool.false_eq_true, if_false, hv]
    · rintro ⟨h1, h2⟩
      rcases h2 with h2 | h2
      · cases h2
      · by_cases h0 : u = 0
        · subst h0
          rw [Lib.decDigits] at h2
          simp at h2
        · exact dec_first 18 u hu (by omega) h1
/-- how a leaf that is told begins, and that it is read -/
theorem leafE_tell (l : Leaf) (h : GoodLeaf l) (r : Bs) (hr : noDigit r) : leafE (tellLeaf l ++ r) = .ok (l, r) ∧ hd (tellLeaf l ++ r) ∈ opens ∧ blank (hd (tellLeaf l ++ r)) = false ∧ hd (tellLeaf l ++ r) ≠ 91 ∧ hd (tellLeaf l ++ r) ≠ 123 := by
  match l, h with
  | none, _ =>
    refine ⟨?_, by show (110 : UInt8) ∈ opens; decide, rfl, by show (110 : UInt8) ≠ 91; decide, by show (110 : UInt8) ≠ 123; decide⟩
    show leafE (nullB ++ r) = _
    unfold leafE
    rw [if_pos (show hd (nullB ++ r) = 110 from rfl), word, if_pos (List.isPrefixOf_iff_prefix.2 (List.prefix_append _ _))]
    simp
  | some (Sum.inl true), _ =>
    refine ⟨?_, by show (116 : UInt8) ∈ opens; decide, rfl, by show (116 : UInt8) ≠ 91; decide, by show (116 : UInt8) ≠ 123; decide⟩
    show leafE (trueB ++ r) = _
    unfold leafE
    rw [if_neg (by show (116 : UInt8) ≠ 110; decide), if_pos (show hd (trueB ++ r) = 116 from rfl), word, if_pos (List.isPrefixOf_iff_prefix.2 (List.prefix_append _ _))]
    simp
  | some (Sum.inl false), _ =>
    refine ⟨?_, by show (102 : UInt8) ∈ opens; decide, rfl, by show (102 : UInt8) ≠ 91; decide, by show (102 : UInt8) ≠ 123; decide⟩
    show leafE (falseB ++ r) = _
    unfold leafE
    rw [if_neg (by show (102 : UInt8) ≠ 110; decide), if_neg (by show (102 : UInt8) ≠ 116; decide), if_pos (show hd (falseB ++ r) = 102 from rfl), word, if_pos (List.isPrefixOf_iff_prefix.2 (List.prefix_append _ _))]
    simp
  | some (Sum.inr (Sum.inr s)), h =>
    refine ⟨?_, by show (34 : UInt8) ∈ opens; decide, rfl, by show (34 : UInt8) ≠ 91; decide, by show (34 : UInt8) ≠ 123; decide⟩
    show leafE (quote s ++ r) = _
    unfold leafE
    have e : hd (quote s ++ r) = 34 := rfl
    rw [e]
    rw [if_neg (by decide), if_neg (by decide), if_neg (by decide), if_pos rfl, textE, quoted_quote s h r]
  | some (Sum.inr (Sum.inl i)), h =>
    have h1 : -1000000000000000000 < i := h.1
    have h2 : i < 1000000000000000000 := h.2
    obtain ⟨below, u, hi, hit, hu, hb⟩ : ∃ (below : Bool) (u : Nat), i = (if below then -(u : Int) else (u : Int)) ∧ Lib.itoa i = (if below then [45] else []) ++ Lib.decDigits u ∧ u < 10 ^ 18 ∧ (below = true → 1 ≤ u) := by
      by_cases hneg : i < 0
      · exact ⟨true, i.natAbs, by simp; omega, by unfold Lib.itoa; rw [if_pos hneg]; rfl, by omega, fun _ => by omega⟩
      · exact ⟨false, i.toNat, by simp; omega, by unfold Lib.itoa; rw [if_neg hneg]; rfl, by omega, fun e => by cases e⟩
    have hn := number_dec below u r hu hb hr
    have hdg := dec_digits 18 u hu
    have hne := dec_ne u
    show leafE (Lib.itoa i ++ r) = _ ∧ hd (Lib.itoa i ++ r) ∈ opens ∧ blank (hd (Lib.itoa i ++ r)) = false ∧ hd (Lib.itoa i ++ r) ≠ 91 ∧ hd (Lib.itoa i ++ r) ≠ 123
    rw [hit, List.append_assoc]
    have hhd : hd ((if below then [45] else []) ++ (Lib.decDigits u ++ r)) = 45 ∨ (48 ≤ (hd ((if below then [45] else []) ++ (Lib.decDigits u ++ r))).toNat ∧ (hd ((if below then [45] else []) ++ (Lib.decDigits u ++ r))).toNat ≤ 57) := by
      cases below with
      | true => exact Or.inl rfl
      | false =>
        right
        cases hd' : Lib.decDigits u with
        | nil => exact absurd hd' hne
        | cons c t => exact (digit_iff c).1 (hdg c (by rw [hd']; simp))
    generalize hX : (if below then [45] else []) ++ (Lib.decDigits u ++ r) = X at *
    have hfacts : hd X ∈ opens ∧ blank (hd X) = false ∧ hd X ≠ 91 ∧ hd X ≠ 123 ∧ hd X ≠ 110 ∧ hd X ≠ 116 ∧ hd X ≠ 102 ∧ hd X ≠ 34 := by
      generalize hd X = c at hhd
      rcases hhd with rfl | ⟨ha, hb'⟩
      · decide
      · have hne' : ∀ m : Nat, m < 256 → (m < 48 ∨ 57 < m) → c ≠ UInt8.ofNat m := by
          intro m hm hm2 e
          subst e
          have : (UInt8.ofNat m).toNat = m := by simp; omega
          omega
        refine ⟨?_, ?_, hne' 91 (by decide) (by decide), hne' 123 (by decide) (by decide), hne' 110 (by decide) (by decide), hne' 116 (by decide) (by decide), hne' 102 (by decide) (by decide), hne' 34 (by decide) (by decide)⟩
        · have hall : ∀ m : Fin 10, UInt8.ofNat (48 + m.val) ∈ opens := by decide
          have hc : c = UInt8.ofNat (48 + (c.toNat - 48)) := by
            apply UInt8.toNat_inj.1
            simp
            omega
          rw [hc]
          exact hall ⟨c.toNat - 48, by omega⟩
        · have h32 := hne' 32 (by decide) (by decide)
          have h10 := hne' 10 (by decide) (by decide)
          have h9 := hne' 9 (by decide) (by decide)
          have e32 : UInt8.ofNat 32 = 32 := rfl
          have e10 : UInt8.ofNat 10 = 10 := rfl
          have e9 : UInt8.ofNat 9 = 9 := rfl
          rw [e32] at h32
          rw [e10] at h10
          rw [e9] at h9
          simp [blank, h32, h10, h9]
    refine ⟨?_, hfacts.1, hfacts.2.1, hfacts.2.2.1, hfacts.2.2.2.1⟩
    unfold leafE
    rw [if_neg hfacts.2.2.2.2.1, if_neg hfacts.2.2.2.2.2.1, if_neg hfacts.2.2.2.2.2.2.1, if_neg hfacts.2.2.2.2.2.2.2, hn, ← hi]
theorem skip_not {r : Bs} (h : blank (hd r) = false) : skip r = r := by
  cases r with
  | nil => rfl
  | cons c r =>
    have hc : blank c = false := h
    rw [skip, if_neg (by simp [hc])]
/-- what comes of reading what is told, at whatever depth and count -/
def Told (m k : Nat) (t : Bs) (many deep : Nat) (r : Bs) : Prop :=
  (∃ j' : J m, value m k (t ++ r) = .ok (j', k + many, r) ∧ tell m j' = t ∧ nodes m j' = many ∧ depth m j' = deep ∧ k + many ≤ 200 ∧ deep ≤ m) ∨
    (value m k (t ++ r) = .error 2 ∧ 200 < k + many) ∨ (value m k (t ++ r) = .error 4 ∧ m < deep)
theorem tell_leafJ (m : Nat) (l : Leaf) : tell m (leaf m l) = tellLeaf l ∧ nodes m (leaf m l) = 1 ∧ depth m (leaf m l) = 0 := by
  cases m <;> exact ⟨rfl, rfl, rfl⟩
theorem value_first {m k : Nat} {r : Bs} (hb : blank (hd r) = false) (ho : hd r ∈ opens) : (200 ≤ k → value m k r = .error 2) ∧ (k < 200 → m = 0 → (hd r = 91 ∨ hd r = 123) → value m k r = .error 4) := by
  have hsk := skip_not hb
  refine ⟨fun hk => ?_, fun hk hm hc => ?_⟩
  · have e : beginE m k (skip r) = 2 := by
      rw [hsk]
      unfold beginE
      rw [if_neg (by simpa using ho), if_pos hk]
    cases m with
    | zero => rw [value, if_pos (by rw [e]; decide), e]
    | succ m => rw [value, if_pos (by rw [e]; decide), e]
  · subst hm
    have e : beginE 0 k (skip r) = 4 := by
      rw [hsk]
      unfold beginE
      rw [if_neg (by simpa using ho), if_neg (by omega), if_pos ⟨rfl, hc⟩]
    rw [value, if_pos (by rw [e]; decide), e]
theorem told_leaf (m k : Nat) (l : Leaf) (h : GoodLeaf l) (r : Bs) (hr : noDigit r) (hk : k ≤ 200) : Told m k (tellLeaf l) 1 0 r := by
  obtain ⟨hl, ho, hb, h91, h123⟩ := leafE_tell l h r hr
  have hv := value_first (m := m) (k := k) hb ho
  have hsk := skip_not hb
  by_cases h200 : 200 ≤ k
  · exact Or.inr (Or.inl ⟨hv.1 h200, by omega⟩)
  · have e : beginE m k (skip (tellLeaf l ++ r)) = 0 := by
      rw [hsk]
      unfold beginE
      rw [if_neg (by simpa using ho), if_neg h200, if_neg]
      rintro ⟨_, h1 | h1⟩
      · exact h91 h1
      · exact h123 h1
    have hval : value m k (tellLeaf l ++ r) = .ok (leaf m l, k + 1, r) := by
      cases m with
      | zero => rw [value, if_neg (by simp [e]), leafAt, hsk, hl]
      | succ m => rw [value, if_neg (by simp [e]), hsk, if_neg h91, if_neg h123, leafAt, hl]
    have ht := tell_leafJ m l
    exact Or.inl ⟨leaf m l, hval, ht.1, ht.2.1, ht.2.2, by omega, Nat.zero_le _⟩
end Go.Proofs.YtaogilpkeeigoabGreatDoor
/- Plain facts: lists and objects that are told are read as they were, wherever there is room; so every value. -/
namespace Go.Proofs.YtaogilpkeeigoabGreatDoor
set_option linter.unusedVariables false
set_option linter.unusedSimpArgs false
/-- every value of depth n that is told is read so -/
def ToldAt (n : Nat) : Prop := ∀ (j : J n), Good n j → ∀ (m k : Nat) (r : Bs), noDigit r → k ≤ 200 → Told m k (tell n j) (nodes n j) (depth n j) r
theorem tell_hd : ∀ (n : Nat) (j : J n), Good n j → ∀ r, noDigit r → hd (tell n j ++ r) ∈ opens ∧ blank (hd (tell n j ++ r)) = false
  | 0, j, h, r, hr => ⟨(leafE_tell j h r hr).2.1, (leafE_tell j h r hr).2.2.1⟩
  | _ + 1, Sum.inl l, h, r, hr => ⟨(leafE_tell l h r hr).2.1, (leafE_tell l h r hr).2.2.1⟩
  | _ + 1, Sum.inr (Sum.inl xs), h, r, hr => ⟨by show (91 : UInt8) ∈ opens; decide, rfl⟩
  | _ + 1, Sum.inr (Sum.inr fs), h, r, hr => ⟨by show (123 : UInt8) ∈ opens; decide, rfl⟩
theorem commas_cons (t : Bs) (ts : List Bs) (r : Bs) : commas (t :: ts) ++ r = t ++ (match ts with | [] => r | _ :: _ => 44 :: (commas ts ++ r)) := by
  cases ts with
  | nil => rfl
  | cons u us => simp [commas]
theorem commas_ge : ∀ ts : List Bs, ts.length ≤ (commas ts).length + 1
  | [] => by simp
  | [x] => by simp
  | x :: y :: r => by
    have := commas_ge (y :: r)
    simp only [commas, List.length_append, List.length_cons] at this ⊢
    omega
/-- what comes of a row of values -/
def RowTold {σ : Type} (m : Nat) (res : Except Nat (σ × Nat × Bs)) (good : σ → Prop) (k many deep : Nat) (r : Bs) : Prop :=
  (∃ s, res = .ok (s, k + many, r) ∧ good s ∧ k + many ≤ 200 ∧ deep ≤ m) ∨ (res = .error 2 ∧ 200 < k + many) ∨ (res = .error 4 ∧ m < deep)
theorem items_told {n : Nat} (ih : ToldAt n) (m : Nat) (r : Bs) : ∀ (rest : List (J n)) (x : J n) (f : Nat) (s : List (J m)) (k : Nat), (∀ y ∈ x :: rest, Good n y) → rest.length < f → k ≤ 200 →
    RowTold m (rowGo 93 (oneItem (value m)) f s k (commas ((x :: rest).map (tell n)) ++ 93 :: r)) (fun s' => ∃ ys, s' = s ++ ys ∧ ys.map (tell m) = (x :: rest).map (tell n) ∧ ys.map (nodes m) = (x :: rest).map (nodes n) ∧ ys.map (depth m) = (x :: rest).map (depth n)) k ((x :: rest).map (nodes n)).sum (maxOf ((x :: rest).map (depth n))) r
  | [], x, 0, s, k, hG, hf, hk => by omega
  | [], x, f + 1, s, k, hG, hf, hk => by
    have h1 := ih x (hG x (by simp)) m k (93 :: r) (by show isDigit 93 = false; decide) hk
    have e : commas (([x] : List (J n)).map (tell n)) ++ 93 :: r = tell n x ++ 93 :: r := rfl
    rw [e]
    have em : (([x] : List (J n)).map (nodes n)).sum = nodes n x := by simp
    have ed : maxOf (([x] : List (J n)).map (depth n)) = depth n x := by simp [maxOf]
    rw [em, ed]
    rcases h1 with ⟨j', hv, ht, hn, hd', h200, hm⟩ | ⟨hv, h200⟩ | ⟨hv, hm⟩
    · refine Or.inl ⟨s ++ [j'], ?_, ⟨[j'], rfl, by simp [ht], by simp [hn], by simp [hd']⟩, h200, hm⟩
      rw [rowGo, oneItem, hv]
      rfl
    · refine Or.inr (Or.inl ⟨?_, h200⟩)
      rw [rowGo, oneItem, hv]
    · refine Or.inr (Or.inr ⟨?_, hm⟩)
      rw [rowGo, oneItem, hv]
  | y :: rest, x, 0, s, k, hG, hf, hk => by omega
  | y :: rest, x, f + 1, s, k, hG, hf, hk => by
    have h1 := ih x (hG x (by simp)) m k (44 :: (commas ((y :: rest).map (tell n)) ++ 93 :: r)) (by show isDigit 44 = false; decide) hk
    have e : commas ((x :: y :: rest).map (tell n)) ++ 93 :: r = tell n x ++ 44 :: (commas ((y :: rest).map (tell n)) ++ 93 :: r) := by
      simp [commas]
    rw [e]
    have em : ((x :: y :: rest).map (nodes n)).sum = nodes n x + ((y :: rest).map (nodes n)).sum := by simp
    have ed : maxOf ((x :: y :: rest).map (depth n)) = max (depth n x) (maxOf ((y :: rest).map (depth n))) := rfl
    rw [em, ed]
    rcases h1 with ⟨j', hv, ht, hn, hd', h200, hm⟩ | ⟨hv, h200⟩ | ⟨hv, hm⟩
    · have ih2 := items_told ih m r rest y f (s ++ [j']) (k + nodes n x) (fun z hz => hG z (by simp at hz ⊢; exact Or.inr hz)) (by simp at hf; omega) h200
      have hgo : rowGo 93 (oneItem (value m)) (f + 1) s k (tell n x ++ 44 :: (commas ((y :: rest).map (tell n)) ++ 93 :: r)) = rowGo 93 (oneItem (value m)) f (s ++ [j']) (k + nodes n x) (commas ((y :: rest).map (tell n)) ++ 93 :: r) := by
        rw [rowGo, oneItem, hv]
        rfl
      rw [hgo]
      rcases ih2 with ⟨s', hr, ⟨ys, rfl, h1, h2, h3⟩, h4, h5⟩ | ⟨hr, h4⟩ | ⟨hr, h4⟩
      · refine Or.inl ⟨s ++ [j'] ++ ys, ?_, ⟨j' :: ys, by simp, by simp [ht, h1], by simp [hn, h2], by simp [hd', h3]⟩, by omega, by omega⟩
        rw [hr]
        simp [Nat.add_assoc]
      · exact Or.inr (Or.inl ⟨hr, by omega⟩)
      · exact Or.inr (Or.inr ⟨hr, by omega⟩)
    · refine Or.inr (Or.inl ⟨?_, by omega⟩)
      rw [rowGo, oneItem, hv]
    · refine Or.inr (Or.inr ⟨?_, by omega⟩)
      rw [rowGo, oneItem, hv]
theorem value_row {m k : Nat} {c : UInt8} {X : Bs} (hk : k < 200) (hc : c = 91 ∨ c = 123) : beginE (m + 1) k (skip (c :: X)) = 0 ∧ skip (c :: X) = c :: X := by
  have hb : blank c = false := by rcases hc with rfl | rfl <;> rfl
  have hsk : skip (c :: X) = c :: X := by rw [skip, if_neg (by simp [hb])]
  refine ⟨?_, hsk⟩
  rw [hsk]
  unfold beginE
  have hh : hd (c :: X) = c := rfl
  rw [hh, if_neg (by rcases hc with rfl | rfl <;> decide), if_neg (by omega), if_neg (by rintro ⟨h, _⟩; omega)]
theorem told_list {n : Nat} (ih : ToldAt n) (xs : List (J n)) (hG : ∀ x ∈ xs, Good n x) (m k : Nat) (r : Bs) (hr : noDigit r) (hk : k ≤ 200) :
    Told m k (tell (n + 1) (Sum.inr (Sum.inl xs))) (nodes (n + 1) (Sum.inr (Sum.inl xs))) (depth (n + 1) (Sum.inr (Sum.inl xs))) r := by
  have et : tell (n + 1) (Sum.inr (Sum.inl xs)) = 91 :: (commas (xs.map (tell n)) ++ [93]) := rfl
  have en : nodes (n + 1) (Sum.inr (Sum.inl xs)) = 1 + (xs.map (nodes n)).sum := rfl
  have ed : depth (n + 1) (Sum.inr (Sum.inl xs)) = 1 + maxOf (xs.map (depth n)) := rfl
  have eX : tell (n + 1) (Sum.inr (Sum.inl xs)) ++ r = 91 :: (commas (xs.map (tell n)) ++ 93 :: r) := by rw [et]; simp
  unfold Told
  rw [eX, en, ed]
  have hv := value_first (m := m) (k := k) (r := 91 :: (commas (xs.map (tell n)) ++ 93 :: r)) rfl (by show (91 : UInt8) ∈ opens; decide)
  by_cases h200 : 200 ≤ k
  · exact Or.inr (Or.inl ⟨hv.1 h200, by omega⟩)
  cases m with
  | zero => exact Or.inr (Or.inr ⟨hv.2 (by omega) rfl (Or.inl rfl), by omega⟩)
  | succ m =>
    obtain ⟨hb, hsk⟩ := value_row (m := m) (k := k) (c := 91) (X := commas (xs.map (tell n)) ++ 93 :: r) (by omega) (Or.inl rfl)
    have hval : value (m + 1) k (91 :: (commas (xs.map (tell n)) ++ 93 :: r)) = match row 93 (oneItem (value m)) [] (k + 1) (91 :: (commas (xs.map (tell n)) ++ 93 :: r)) with
      | .error e => .error e
      | .ok (s, k', r') => .ok (Sum.inr (Sum.inl s), k', r') := by
      rw [value, if_neg (by simp [hb]), hsk, if_pos (show hd (91 :: (commas (xs.map (tell n)) ++ 93 :: r)) = 91 from rfl)]
      cases row 93 (oneItem (value m)) [] (k + 1) (91 :: (commas (xs.map (tell n)) ++ 93 :: r)) <;> rfl
    have hrow : RowTold m (row 93 (oneItem (value m)) [] (k + 1) (91 :: (commas (xs.map (tell n)) ++ 93 :: r))) (fun s' => s'.map (tell m) = xs.map (tell n) ∧ s'.map (nodes m) = xs.map (nodes n) ∧ s'.map (depth m) = xs.map (depth n)) (k + 1) (xs.map (nodes n)).sum (maxOf (xs.map (depth n))) r := by
      cases xs with
      | nil =>
        refine Or.inl ⟨[], ?_, ⟨rfl, rfl, rfl⟩, by simp; omega, by simp [maxOf]⟩
        rfl
      | cons x rest =>
        have hh := tell_hd n x (hG x (by simp)) (match rest.map (tell n) with | [] => 93 :: r | _ :: _ => 44 :: (commas (rest.map (tell n)) ++ 93 :: r)) (by cases rest.map (tell n) <;> rfl)
        have eC : commas ((x :: rest).map (tell n)) ++ 93 :: r = tell n x ++ (match rest.map (tell n) with | [] => 93 :: r | _ :: _ => 44 :: (commas (rest.map (tell n)) ++ 93 :: r)) := commas_cons (tell n x) (rest.map (tell n)) (93 :: r)
        rw [← eC] at hh
        have hi := items_told ih m r rest x ((91 :: (commas ((x :: rest).map (tell n)) ++ 93 :: r)).length + 1) [] (k + 1) hG (by
          have := commas_ge ((x :: rest).map (tell n))
          simp only [List.length_map, List.length_cons, List.length_append] at this ⊢
          omega) (by omega)
        have hne : hd (commas ((x :: rest).map (tell n)) ++ 93 :: r) ≠ 93 := by
          intro e
          rw [e] at hh
          exact absurd hh.1 (by decide)
        have hgo : row 93 (oneItem (value m)) [] (k + 1) (91 :: (commas ((x :: rest).map (tell n)) ++ 93 :: r)) = rowGo 93 (oneItem (value m)) ((91 :: (commas ((x :: rest).map (tell n)) ++ 93 :: r)).length + 1) [] (k + 1) (commas ((x :: rest).map (tell n)) ++ 93 :: r) := by
          rw [row, List.tail_cons, skip_not hh.2, if_neg hne]
        rw [hgo]
        rcases hi with ⟨s', h1, ⟨ys, rfl, h2, h3, h4⟩, h5, h6⟩ | h | h
        · exact Or.inl ⟨_, h1, ⟨by simpa using h2, by simpa using h3, by simpa using h4⟩, h5, h6⟩
        · exact Or.inr (Or.inl h)
        · exact Or.inr (Or.inr h)
    rw [hval]
    rcases hrow with ⟨s', h1, ⟨h2, h3, h4⟩, h5, h6⟩ | ⟨h1, h5⟩ | ⟨h1, h5⟩
    · refine Or.inl ⟨Sum.inr (Sum.inl s'), ?_, ?_, ?_, ?_, by omega, by omega⟩
      · rw [h1]
        simp only [Nat.add_assoc]
      · show 91 :: (commas (s'.map (tell m)) ++ [93]) = _
        rw [h2, et]
      · show 1 + (s'.map (nodes m)).sum = _
        rw [h3]
      · show 1 + maxOf (s'.map (depth m)) = _
        rw [h4]
    · exact Or.inr (Or.inl ⟨by rw [h1], by omega⟩)
    · exact Or.inr (Or.inr ⟨by rw [h1], by omega⟩)
/-- the text of a field -/
def fieldT (n : Nat) (f : Bs × J n) : Bs := quote f.1 ++ 58 :: tell n f.2
theorem insert_end_of {α : Type} {s : List (Bs × α)} {nm : Bs} (v : α) (h : ∀ g ∈ s, less g.1 nm = true) : insertAt s nm v = s ++ [(nm, v)] := by
  have hp : placeOfName s nm = s.length := place_of s nm s.length (Nat.le_refl _) (fun x f hx hf => h f (List.mem_of_getElem? hf)) (fun f hf => by rw [List.getElem?_eq_none (Nat.le_refl _)] at hf; cases hf)
  rw [insert_eq, hp]
  simp
theorem any_of_less {α : Type} {s : List (Bs × α)} {nm : Bs} (h : ∀ g ∈ s, less g.1 nm = true) : (s.any fun f => f.1 == nm) = false := by
  rw [List.any_eq_false]
  intro f hf e
  have e' : f.1 = nm := by simpa using e
  have := h f hf
  rw [e', less_iff, cmp_self] at this
  omega
theorem nameE_told {α : Type} {s : List (Bs × α)} {nm X : Bs} (hm : ∀ c ∈ nm, meant c = true) (h : ∀ g ∈ s, less g.1 nm = true) : nameE s (quote nm ++ 58 :: X) = .ok (nm, X) := by
  have hsk : skip (quote nm ++ 58 :: X) = quote nm ++ 58 :: X := skip_not rfl
  unfold nameE
  rw [hsk, quoted_quote nm hm]
  simp only []
  rw [if_neg (by rw [any_of_less h]; decide)]
  have e : skip (58 :: X) = 58 :: X := skip_not rfl
  rw [e, if_pos (show hd (58 :: X) = 58 from rfl)]
  rfl
theorem fields_told {n : Nat} (ih : ToldAt n) (m : Nat) (r : Bs) : ∀ (rest : List (Bs × J n)) (x : Bs × J n) (f : Nat) (s : List (Bs × J m)) (k : Nat), (∀ y ∈ x :: rest, (∀ c ∈ y.1, meant c = true) ∧ Good n y.2) → Rising (x :: rest) → (∀ g ∈ s, ∀ y ∈ x :: rest, less g.1 y.1 = true) → rest.length < f → k ≤ 200 →
    RowTold m (rowGo 125 (oneField (value m)) f s k (commas ((x :: rest).map (fieldT n)) ++ 125 :: r)) (fun s' => ∃ ys, s' = s ++ ys ∧ ys.map (fieldT m) = (x :: rest).map (fieldT n) ∧ ys.map (fun f => nodes m f.2) = (x :: rest).map (fun f => nodes n f.2) ∧ ys.map (fun f => depth m f.2) = (x :: rest).map (fun f => depth n f.2)) k ((x :: rest).map (fun f => nodes n f.2)).sum (maxOf ((x :: rest).map (fun f => depth n f.2))) r
  | [], x, 0, s, k, hG, hR, hs, hf, hk => by omega
  | [], x, f + 1, s, k, hG, hR, hs, hf, hk => by
    have hx := hG x (by simp)
    have h1 := ih x.2 hx.2 m k (125 :: r) (by show isDigit 125 = false; decide) hk
    have e : commas (([x] : List (Bs × J n)).map (fieldT n)) ++ 125 :: r = quote x.1 ++ 58 :: (tell n x.2 ++ 125 :: r) := by simp [commas, fieldT]
    have hn := nameE_told (X := tell n x.2 ++ 125 :: r) hx.1 (fun g hg => hs g hg x (by simp))
    rw [e]
    have em : (([x] : List (Bs × J n)).map (fun f => nodes n f.2)).sum = nodes n x.2 := by simp
    have ed : maxOf (([x] : List (Bs × J n)).map (fun f => depth n f.2)) = depth n x.2 := by simp [maxOf]
    rw [em, ed]
    rcases h1 with ⟨j', hv, ht, hnn, hd', h200, hm⟩ | ⟨hv, h200⟩ | ⟨hv, hm⟩
    · refine Or.inl ⟨s ++ [(x.1, j')], ?_, ⟨[(x.1, j')], rfl, by simp [ht, fieldT], by simp [hnn], by simp [hd']⟩, h200, hm⟩
      rw [rowGo, oneField, hn]
      simp only [hv]
      rw [insert_end_of j' (fun g hg => hs g hg x (by simp))]
      rfl
    · refine Or.inr (Or.inl ⟨?_, h200⟩)
      rw [rowGo, oneField, hn]
      simp only [hv]
    · refine Or.inr (Or.inr ⟨?_, hm⟩)
      rw [rowGo, oneField, hn]
      simp only [hv]
  | y :: rest, x, 0, s, k, hG, hR, hs, hf, hk => by omega
  | y :: rest, x, f + 1, s, k, hG, hR, hs, hf, hk => by
    have hx := hG x (by simp)
    have h1 := ih x.2 hx.2 m k (44 :: (commas ((y :: rest).map (fieldT n)) ++ 125 :: r)) (by show isDigit 44 = false; decide) hk
    have e : commas ((x :: y :: rest).map (fieldT n)) ++ 125 :: r = quote x.1 ++ 58 :: (tell n x.2 ++ 44 :: (commas ((y :: rest).map (fieldT n)) ++ 125 :: r)) := by simp [commas, fieldT]
    have hn := nameE_told (X := tell n x.2 ++ 44 :: (commas ((y :: rest).map (fieldT n)) ++ 125 :: r)) hx.1 (fun g hg => hs g hg x (by simp))
    rw [e]
    have em : ((x :: y :: rest).map (fun f => nodes n f.2)).sum = nodes n x.2 + ((y :: rest).map (fun f => nodes n f.2)).sum := by simp
    have ed : maxOf ((x :: y :: rest).map (fun f => depth n f.2)) = max (depth n x.2) (maxOf ((y :: rest).map (fun f => depth n f.2))) := rfl
    rw [em, ed]
    have hR' := List.pairwise_cons.1 hR
    rcases h1 with ⟨j', hv, ht, hnn, hd', h200, hm⟩ | ⟨hv, h200⟩ | ⟨hv, hm⟩
    · have ih2 := fields_told ih m r rest y f (s ++ [(x.1, j')]) (k + nodes n x.2) (fun z hz => hG z (by simp at hz ⊢; exact Or.inr hz)) hR'.2 (fun g hg z hz => by
          rcases List.mem_append.1 hg with hg | hg
          · exact hs g hg z (by simp at hz ⊢; exact Or.inr hz)
          · have hg := List.mem_singleton.1 hg
            subst hg
            exact hR'.1 z hz) (by simp at hf; omega) h200
      have hgo : rowGo 125 (oneField (value m)) (f + 1) s k (quote x.1 ++ 58 :: (tell n x.2 ++ 44 :: (commas ((y :: rest).map (fieldT n)) ++ 125 :: r))) = rowGo 125 (oneField (value m)) f (s ++ [(x.1, j')]) (k + nodes n x.2) (commas ((y :: rest).map (fieldT n)) ++ 125 :: r) := by
        rw [rowGo, oneField, hn]
        simp only [hv]
        rw [insert_end_of j' (fun g hg => hs g hg x (by simp))]
        rfl
      rw [hgo]
      rcases ih2 with ⟨s', hr, ⟨ys, rfl, h1, h2, h3⟩, h4, h5⟩ | ⟨hr, h4⟩ | ⟨hr, h4⟩
      · refine Or.inl ⟨s ++ [(x.1, j')] ++ ys, ?_, ⟨(x.1, j') :: ys, by simp, by simp [ht, h1, fieldT], by simp [hnn, h2], by simp [hd', h3]⟩, by omega, by omega⟩
        rw [hr]
        simp [Nat.add_assoc]
      · exact Or.inr (Or.inl ⟨hr, by omega⟩)
      · exact Or.inr (Or.inr ⟨hr, by omega⟩)
    · refine Or.inr (Or.inl ⟨?_, by omega⟩)
      rw [rowGo, oneField, hn]
      simp only [hv]
    · refine Or.inr (Or.inr ⟨?_, by omega⟩)
      rw [rowGo, oneField, hn]
      simp only [hv]
theorem told_object {n : Nat} (ih : ToldAt n) (fs : List (Bs × J n)) (hR : Rising fs) (hG : ∀ f ∈ fs, (∀ c ∈ f.1, meant c = true) ∧ Good n f.2) (m k : Nat) (r : Bs) (hr : noDigit r) (hk : k ≤ 200) :
    Told m k (tell (n + 1) (Sum.inr (Sum.inr fs))) (nodes (n + 1) (Sum.inr (Sum.inr fs))) (depth (n + 1) (Sum.inr (Sum.inr fs))) r := by
  have et : tell (n + 1) (Sum.inr (Sum.inr fs)) = 123 :: (commas (fs.map (fieldT n)) ++ [125]) := rfl
  have en : nodes (n + 1) (Sum.inr (Sum.inr fs)) = 1 + (fs.map (fun f => nodes n f.2)).sum := rfl
  have ed : depth (n + 1) (Sum.inr (Sum.inr fs)) = 1 + maxOf (fs.map (fun f => depth n f.2)) := rfl
  have eX : tell (n + 1) (Sum.inr (Sum.inr fs)) ++ r = 123 :: (commas (fs.map (fieldT n)) ++ 125 :: r) := by rw [et]; simp
  unfold Told
  rw [eX, en, ed]
  have hv := value_first (m := m) (k := k) (r := 123 :: (commas (fs.map (fieldT n)) ++ 125 :: r)) rfl (by show (123 : UInt8) ∈ opens; decide)
  by_cases h200 : 200 ≤ k
  · exact Or.inr (Or.inl ⟨hv.1 h200, by omega⟩)
  cases m with
  | zero => exact Or.inr (Or.inr ⟨hv.2 (by omega) rfl (Or.inr rfl), by omega⟩)
  | succ m =>
    obtain ⟨hb, hsk⟩ := value_row (m := m) (k := k) (c := 123) (X := commas (fs.map (fieldT n)) ++ 125 :: r) (by omega) (Or.inr rfl)
    have hval : value (m + 1) k (123 :: (commas (fs.map (fieldT n)) ++ 125 :: r)) = match row 125 (oneField (value m)) [] (k + 1) (123 :: (commas (fs.map (fieldT n)) ++ 125 :: r)) with
      | .error e => .error e
      | .ok (s, k', r') => .ok (Sum.inr (Sum.inr s), k', r') := by
      rw [value, if_neg (by simp [hb]), hsk, if_neg (show ¬ hd (123 :: (commas (fs.map (fieldT n)) ++ 125 :: r)) = 91 from by show ¬ (123 : UInt8) = 91; decide), if_pos (show hd (123 :: (commas (fs.map (fieldT n)) ++ 125 :: r)) = 123 from rfl)]
      cases row 125 (oneField (value m)) [] (k + 1) (123 :: (commas (fs.map (fieldT n)) ++ 125 :: r)) <;> rfl
    have hrow : RowTold m (row 125 (oneField (value m)) [] (k + 1) (123 :: (commas (fs.map (fieldT n)) ++ 125 :: r))) (fun s' => s'.map (fieldT m) = fs.map (fieldT n) ∧ s'.map (fun f => nodes m f.2) = fs.map (fun f => nodes n f.2) ∧ s'.map (fun f => depth m f.2) = fs.map (fun f => depth n f.2)) (k + 1) (fs.map (fun f => nodes n f.2)).sum (maxOf (fs.map (fun f => depth n f.2))) r := by
      cases fs with
      | nil =>
        refine Or.inl ⟨[], ?_, ⟨rfl, rfl, rfl⟩, by simp; omega, by simp [maxOf]⟩
        rfl
      | cons x rest =>
        have hi := fields_told ih m r rest x ((123 :: (commas ((x :: rest).map (fieldT n)) ++ 125 :: r)).length + 1) [] (k + 1) hG hR (fun g hg => by simp at hg) (by
          have := commas_ge ((x :: rest).map (fieldT n))
          simp only [List.length_map, List.length_cons, List.length_append] at this ⊢
          omega) (by omega)
        have hh : hd (commas ((x :: rest).map (fieldT n)) ++ 125 :: r) = 34 := by
          cases rest <;> rfl
        have hgo : row 125 (oneField (value m)) [] (k + 1) (123 :: (commas ((x :: rest).map (fieldT n)) ++ 125 :: r)) = rowGo 125 (oneField (value m)) ((123 :: (commas ((x :: rest).map (fieldT n)) ++ 125 :: r)).length + 1) [] (k + 1) (commas ((x :: rest).map (fieldT n)) ++ 125 :: r) := by
          rw [row, List.tail_cons, skip_not (by rw [hh]; rfl), if_neg (by rw [hh]; decide)]
        rw [hgo]
        rcases hi with ⟨s', h1, ⟨ys, rfl, h2, h3, h4⟩, h5, h6⟩ | h | h
        · exact Or.inl ⟨_, h1, ⟨by simpa using h2, by simpa using h3, by simpa using h4⟩, h5, h6⟩
        · exact Or.inr (Or.inl h)
        · exact Or.inr (Or.inr h)
    rw [hval]
    rcases hrow with ⟨s', h1, ⟨h2, h3, h4⟩, h5, h6⟩ | ⟨h1, h5⟩ | ⟨h1, h5⟩
    · refine Or.inl ⟨Sum.inr (Sum.inr s'), ?_, ?_, ?_, ?_, by omega, by omega⟩
      · rw [h1]
        simp only [Nat.add_assoc]
      · show 123 :: (commas (s'.map (fieldT m)) ++ [125]) = _
        rw [h2, et]
      · show 1 + (s'.map (fun f => nodes m f.2)).sum = _
        rw [h3]
      · show 1 + maxOf (s'.map (fun f => depth m f.2)) = _
        rw [h4]
    · exact Or.inr (Or.inl ⟨by rw [h1], by omega⟩)
    · exact Or.inr (Or.inr ⟨by rw [h1], by omega⟩)
theorem told_any : ∀ n, ToldAt n
  | 0 => fun j h m k r hr hk => told_leaf m k j h r hr hk
  | n + 1 => fun j h m k r hr hk => by
    have ih := told_any n
    match j, h with
    | Sum.inl l, h => exact told_leaf m k l h r hr hk
    | Sum.inr (Sum.inl xs), h => exact told_list ih xs h m k r hr hk
    | Sum.inr (Sum.inr fs), h => exact told_object ih fs h.1 h.2 m k r hr hk
end Go.Proofs.YtaogilpkeeigoabGreatDoor
/- Plain facts: how many values are read and how deep they lie; what is told, alone and within a list, is read so. -/
namespace Go.Proofs.YtaogilpkeeigoabGreatDoor
set_option linter.unusedVariables false
set_option linter.unusedSimpArgs false
theorem maxOf_bound {b : Nat} : ∀ (l : List Nat), (∀ y ∈ l, y ≤ b) → maxOf l ≤ b
  | [], _ => Nat.zero_le _
  | x :: l, h => by
    have h1 := maxOf_bound l (fun z hz => h z (by simp [hz]))
    have h2 := h x (by simp)
    simp only [maxOf]
    omega
theorem depth_le : ∀ (n : Nat) (j : J n), depth n j ≤ n
  | 0, _ => Nat.le_refl _
  | _ + 1, Sum.inl _ => Nat.zero_le _
  | n + 1, Sum.inr (Sum.inl xs) => by
    have := maxOf_bound (b := n) (xs.map (depth n)) (fun y hy => by
      obtain ⟨z, _, rfl⟩ := List.mem_map.1 hy
      exact depth_le n z)
    show 1 + maxOf (xs.map (depth n)) ≤ n + 1
    omega
  | n + 1, Sum.inr (Sum.inr fs) => by
    have := maxOf_bound (b := n) (fs.map (fun f => depth n f.2)) (fun y hy => by
      obtain ⟨z, _, rfl⟩ := List.mem_map.1 hy
      exact depth_le n z.2)
    show 1 + maxOf (fs.map (fun f => depth n f.2)) ≤ n + 1
    omega
theorem rowGo_inv {σ : Type} {z : UInt8} {one : σ → Nat → Bs → Except Nat (σ × Nat × Bs)} {P : σ → Nat → Prop} (h : ∀ s k r s' k' r', P s k → one s k r = .ok (s', k', r') → P s' k') : ∀ (f : Nat) (s : σ) (k : Nat) (r : Bs) (s' : σ) (k' : Nat) (r' : Bs), P s k → rowGo z one f s k r = .ok (s', k', r') → P s' k'
  | 0, s, k, r, s', k', r', hs, e => by simp [rowGo] at e
  | f + 1, s, k, r, s', k', r', hs, e => by
    rw [rowGo] at e
    cases ho : one s k r with
    | error er => rw [ho] at e; cases e
    | ok p =>
      obtain ⟨s1, k1, r1⟩ := p
      have h1 := h s k r s1 k1 r1 hs ho
      rw [ho] at e
      simp only [] at e
      split at e
      · cases e; exact h1
      · split at e
        · exact rowGo_inv h f s1 k1 _ s' k' r' h1 e
        · cases e
theorem row_inv {σ : Type} {z : UInt8} {one : σ → Nat → Bs → Except Nat (σ × Nat × Bs)} {P : σ → Nat → Prop} (h : ∀ s k r s' k' r', P s k → one s k r = .ok (s', k', r') → P s' k') (s : σ) (k : Nat) (r : Bs) (s' : σ) (k' : Nat) (r' : Bs) (hs : P s k) (e : row z one s k r = .ok (s', k', r')) : P s' k' := by
  unfold row at e
  split at e
  · cases e; exact hs
  · exact rowGo_inv h _ _ _ _ _ _ _ hs e
theorem begin_room {n k : Nat} {r : Bs} (h : beginE n k r = 0) : k < 200 := by
  unfold beginE at h
  split at h
  · simp at h
  · split at h
    · simp at h
    · omega
theorem value_size : ∀ (n : Nat) (k : Nat) (r : Bs) (j : J n) (k' : Nat) (r' : Bs), value n k r = .ok (j, k', r') → k' = k + nodes n j ∧ k' ≤ 200
  | 0, k, r, j, k', r', e => by
    have hb := begin_room (value_cases e).1
    rcases (value_cases e).2 with ⟨l, _, _, hl, rfl, rfl⟩ | ⟨m, hm, _⟩ | ⟨m, hm, _⟩
    · exact ⟨rfl, by omega⟩
    · cases hm
    · cases hm
  | n + 1, k, r, j, k', r', e => by
    have hb := begin_room (value_cases e).1
    rcases (value_cases e).2 with ⟨l, _, _, hl, rfl, rfl⟩ | ⟨m, hm, xs, _, hr, hj⟩ | ⟨m, hm, fs, _, hr, hj⟩
    · exact ⟨rfl, by omega⟩
    · cases hm
      subst hj
      have h := row_inv (one := oneItem (value n)) (P := fun s q => q = k + 1 + (s.map (nodes n)).sum ∧ q ≤ 200) (fun s q r s' q' r' hs ho => by
        obtain ⟨v, hv, rfl⟩ := oneItem_ok ho
        obtain ⟨h1, h2⟩ := value_size n q r v q' r' hv
        refine ⟨?_, h2⟩
        simp only [List.map_append, List.sum_append, List.map_cons, List.map_nil, List.sum_cons, List.sum_nil]
        omega) _ _ _ _ _ _ ⟨by simp, by omega⟩ hr
      refine ⟨?_, h.2⟩
      show k' = k + (1 + (xs.map (nodes n)).sum)
      omega
    · cases hm
      subst hj
      have h := row_inv (one := oneField (value n)) (P := fun s q => q = k + 1 + (s.map (fun f => nodes n f.2)).sum ∧ q ≤ 200) (fun s q r s' q' r' hs ho => by
        obtain ⟨nm, v, r1, hn, hv, rfl⟩ := oneField_ok ho
        obtain ⟨h1, h2⟩ := value_size n q r1 v q' r' hv
        refine ⟨?_, h2⟩
        rw [sum_insert (fun f => nodes n f.2)]
        show q' = k + 1 + ((s.map (fun f => nodes n f.2)).sum + nodes n v)
        omega) _ _ _ _ _ _ ⟨by simp, by omega⟩ hr
      refine ⟨?_, h.2⟩
      show k' = k + (1 + (fs.map (fun f => nodes n f.2)).sum)
      omega
theorem read_val {s : Bs} {j : J 10} (h : read s = .ok j) : ∃ k r, value 10 0 s = .ok (j, k, r) ∧ skip r = [] ∧ s.length ≤ 2000 := by
  unfold read at h
  split at h
  · cases h
  · cases hv : value 10 0 s with
    | error er => rw [hv] at h; cases h
    | ok p =>
      obtain ⟨j1, k1, r1⟩ := p
      rw [hv] at h
      simp only [] at h
      split at h
      · rename_i hl hs
        cases h
        exact ⟨k1, r1, rfl, hs, by omega⟩
      · cases h
theorem nodes_one : ∀ (n : Nat) (j : J n), 1 ≤ nodes n j
  | 0, _ => Nat.le_refl _
  | _ + 1, Sum.inl _ => Nat.le_refl _
  | _ + 1, Sum.inr (Sum.inl _) => Nat.le_add_right _ _
  | _ + 1, Sum.inr (Sum.inr _) => Nat.le_add_right _ _
theorem read_size {s : Bs} {j : J 10} (h : read s = .ok j) : 1 ≤ nodes 10 j ∧ nodes 10 j ≤ 200 ∧ depth 10 j ≤ 10 := by
  obtain ⟨k, r, hv, _, _⟩ := read_val h
  obtain ⟨h1, h2⟩ := value_size _ _ _ _ _ _ hv
  exact ⟨nodes_one _ _, by omega, depth_le _ _⟩
/-- what is told of a value, read -/
theorem read_of_told {t : Bs} {many deep : Nat} (h : Told 10 0 t many deep []) (hl : t.length ≤ 2000) :
    (∃ j', read t = .ok j' ∧ tell 10 j' = t ∧ nodes 10 j' = many ∧ depth 10 j' = deep ∧ many ≤ 200 ∧ deep ≤ 10) ∨ (read t = .error 2 ∧ 200 < many) ∨ (read t = .error 4 ∧ 10 < deep) := by
  unfold Told at h
  rw [List.append_nil] at h
  unfold read
  rw [if_neg (by omega)]
  rcases h with ⟨j', hv, h1, h2, h3, h4, h5⟩ | ⟨hv, h1⟩ | ⟨hv, h1⟩
  · refine Or.inl ⟨j', ?_, h1, h2, h3, by omega, h5⟩
    rw [hv]
    rfl
  · exact Or.inr (Or.inl ⟨by rw [hv], by omega⟩)
  · exact Or.inr (Or.inr ⟨by rw [hv], h1⟩)
theorem noDigit_nil : noDigit [] := by
  show isDigit 0 = false
  decide
theorem read_again {s : Bs} {j : J 10} (h : read s = .ok j) : ∃ j', read (tell 10 j) = .ok j' ∧ tell 10 j' = tell 10 j ∧ nodes 10 j' = nodes 10 j ∧ depth 10 j' = depth 10 j := by
  obtain ⟨h1, h2, h3⟩ := read_size h
  have hs := read_short h
  rcases read_of_told (told_any 10 j (read_good h) 10 0 [] noDigit_nil (by omega)) (by omega) with ⟨j', a, b, c, d, _⟩ | ⟨_, h4⟩ | ⟨_, h4⟩
  · exact ⟨j', a, b, c, d⟩
  · omega
  · omega
theorem read_long {s : Bs} (h : 2000 < s.length) : read s = .error 2 := by
  unfold read
  rw [if_pos h]
/-- within a list -/
def wrapB (t : Bs) : Bs := 91 :: (t ++ [93])
theorem wrap_len (t : Bs) : (wrapB t).length = t.length + 2 := by simp [wrapB]
theorem read_wrap {s : Bs} {j : J 10} (h : read s = .ok j) :
    (1998 < (tell 10 j).length ∧ read (wrapB (tell 10 j)) = .error 2) ∨
    ((tell 10 j).length ≤ 1998 ∧ ((∃ j', read (wrapB (tell 10 j)) = .ok j' ∧ tell 10 j' = wrapB (tell 10 j) ∧ nodes 10 j' = nodes 10 j + 1 ∧ depth 10 j' = depth 10 j + 1 ∧ nodes 10 j < 200 ∧ depth 10 j < 10) ∨ (read (wrapB (tell 10 j)) = .error 2 ∧ nodes 10 j = 200) ∨ (read (wrapB (tell 10 j)) = .error 4 ∧ depth 10 j = 10))) := by
  obtain ⟨h1, h2, h3⟩ := read_size h
  have hw := wrap_len (tell 10 j)
  by_cases hl : 1998 < (tell 10 j).length
  · exact Or.inl ⟨hl, read_long (by omega)⟩
  · refine Or.inr ⟨by omega, ?_⟩
    have ht := told_any 11 (Sum.inr (Sum.inl [j])) (fun x hx => by
      simp only [List.mem_singleton] at hx
      rw [hx]
      exact read_good h) 10 0 [] noDigit_nil (by omega)
    have e1 : tell 11 (Sum.inr (Sum.inl [j])) = wrapB (tell 10 j) := rfl
    have e2 : nodes 11 (Sum.inr (Sum.inl [j])) = nodes 10 j + 1 := by
      show 1 + (nodes 10 j + 0) = _
      omega
    have e3 : depth 11 (Sum.inr (Sum.inl [j])) = depth 10 j + 1 := by
      show 1 + max (depth 10 j) 0 = _
      omega
    rw [e1, e2, e3] at ht
    rcases read_of_told ht (by omega) with ⟨j', a, b, c, d, e, f⟩ | ⟨a, h4⟩ | ⟨a, h4⟩
    · exact Or.inl ⟨j', a, b, c, d, by omega, by omega⟩
    · exact Or.inr (Or.inl ⟨a, by omega⟩)
    · exact Or.inr (Or.inr ⟨a, by omega⟩)
end Go.Proofs.YtaogilpkeeigoabGreatDoor
/- Plain facts: what is told of a value is read as just that value, wherever there is room. -/
namespace Go.Proofs.YtaogilpkeeigoabGreatDoor
set_option linter.unusedVariables false
set_option linter.unusedSimpArgs false
/-- what comes of reading what is told, at whatever depth and count -/
def ToldL (n : Nat) (j : J n) (m k : Nat) (r : Bs) : Prop :=
  (value m k (tell n j ++ r) = .ok (lift n m j, k + nodes n j, r) ∧ k + nodes n j ≤ 200 ∧ depth n j ≤ m) ∨
    (value m k (tell n j ++ r) = .error 2 ∧ 200 < k + nodes n j) ∨ (value m k (tell n j ++ r) = .error 4 ∧ m < depth n j)
def ToldLAt (n : Nat) : Prop := ∀ (j : J n), Good n j → ∀ (m k : Nat) (r : Bs), noDigit r → k ≤ 200 → ToldL n j m k r
theorem leaf_value (m k : Nat) (l : Leaf) (h : GoodLeaf l) (r : Bs) (hr : noDigit r) (hk : k ≤ 200) : (value m k (tellLeaf l ++ r) = .ok (leaf m l, k + 1, r) ∧ k + 1 ≤ 200 ∧ 0 ≤ m) ∨ (value m k (tellLeaf l ++ r) = .error 2 ∧ 200 < k + 1) ∨ (value m k (tellLeaf l ++ r) = .error 4 ∧ m < 0) := by
  obtain ⟨hl, ho, hb, h91, h123⟩ := leafE_tell l h r hr
  have hv := value_first (m := m) (k := k) hb ho
  have hsk := skip_not hb
  by_cases h200 : 200 ≤ k
  · exact Or.inr (Or.inl ⟨hv.1 h200, by omega⟩)
  · have e : beginE m k (skip (tellLeaf l ++ r)) = 0 := by
      rw [hsk]
      unfold beginE
      rw [if_neg (by simpa using ho), if_neg h200, if_neg]
      rintro ⟨_, h1 | h1⟩
      · exact h91 h1
      · exact h123 h1
    have hval : value m k (tellLeaf l ++ r) = .ok (leaf m l, k + 1, r) := by
      cases m with
      | zero => rw [value, if_neg (by simp [e]), leafAt, hsk, hl]
      | succ m => rw [value, if_neg (by simp [e]), hsk, if_neg h91, if_neg h123, leafAt, hl]
    exact Or.inl ⟨hval, by omega, Nat.zero_le _⟩
theorem items_toldL {n : Nat} (ih : ToldLAt n) (m : Nat) (r : Bs) : ∀ (rest : List (J n)) (x : J n) (f : Nat) (s : List (J m)) (k : Nat), (∀ y ∈ x :: rest, Good n y) → rest.length < f → k ≤ 200 →
    RowTold m (rowGo 93 (oneItem (value m)) f s k (commas ((x :: rest).map (tell n)) ++ 93 :: r)) (fun s' => s' = s ++ (x :: rest).map (lift n m)) k ((x :: rest).map (nodes n)).sum (maxOf ((x :: rest).map (depth n))) r
  | [], x, 0, s, k, hG, hf, hk => by omega
  | [], x, f + 1, s, k, hG, hf, hk => by
    have h1 := ih x (hG x (by simp)) m k (93 :: r) (by show isDigit 93 = false; decide) hk
    have e : commas (([x] : List (J n)).map (tell n)) ++ 93 :: r = tell n x ++ 93 :: r := rfl
    rw [e]
    have em : (([x] : List (J n)).map (nodes n)).sum = nodes n x := by simp
    have ed : maxOf (([x] : List (J n)).map (depth n)) = depth n x := by simp [maxOf]
    rw [em, ed]
    rcases h1 with ⟨hv, h200, hm⟩ | ⟨hv, h200⟩ | ⟨hv, hm⟩
    · refine Or.inl ⟨s ++ [lift n m x], ?_, rfl, h200, hm⟩
      rw [rowGo, oneItem, hv]
      rfl
    · refine Or.inr (Or.inl ⟨?_, h200⟩)
      rw [rowGo, oneItem, hv]
    · refine Or.inr (Or.inr ⟨?_, hm⟩)
      rw [rowGo, oneItem, hv]
  | y :: rest, x, 0, s, k, hG, hf, hk => by omega
  | y :: rest, x, f + 1, s, k, hG, hf, hk => by
    have h1 := ih x (hG x (by simp)) m k (44 :: (commas ((y :: rest).map (tell n)) ++ 93 :: r)) (by show isDigit 44 = false; decide) hk
    have e : commas ((x :: y :: rest).map (tell n)) ++ 93 :: r = tell n x ++ 44 :: (commas ((y :: rest).map (tell n)) ++ 93 :: r) := by
      simp [commas]
    rw [e]
    have em : ((x :: y :: rest).map (nodes n)).sum = nodes n x + ((y :: rest).map (nodes n)).sum := by simp
    have ed : maxOf ((x :: y :: rest).map (depth n)) = max (depth n x) (maxOf ((y :: rest).map (depth n))) := rfl
    rw [em, ed]
    rcases h1 with ⟨hv, h200, hm⟩ | ⟨hv, h200⟩ | ⟨hv, hm⟩
    · have ih2 := items_toldL ih m r rest y f (s ++ [lift n m x]) (k + nodes n x) (fun z hz => hG z (by simp at hz ⊢; exact Or.inr hz)) (by simp at hf; omega) h200
      have hgo : rowGo 93 (oneItem (value m)) (f + 1) s k (tell n x ++ 44 :: (commas ((y :: rest).map (tell n)) ++ 93 :: r)) = rowGo 93 (oneItem (value m)) f (s ++ [lift n m x]) (k + nodes n x) (commas ((y :: rest).map (tell n)) ++ 93 :: r) := by
        rw [rowGo, oneItem, hv]
        rfl
      rw [hgo]
      rcases ih2 with ⟨s', hr, rfl, h4, h5⟩ | ⟨hr, h4⟩ | ⟨hr, h4⟩
      · refine Or.inl ⟨_, ?_, rfl, by omega, by omega⟩
        rw [hr]
        simp [Nat.add_assoc]
      · exact Or.inr (Or.inl ⟨hr, by omega⟩)
      · exact Or.inr (Or.inr ⟨hr, by omega⟩)
    · refine Or.inr (Or.inl ⟨?_, by omega⟩)
      rw [rowGo, oneItem, hv]
    · refine Or.inr (Or.inr ⟨?_, by omega⟩)
      rw [rowGo, oneItem, hv]
theorem told_listL {n : Nat} (ih : ToldLAt n) (xs : List (J n)) (hG : ∀ x ∈ xs, Good n x) (m k : Nat) (r : Bs) (hr : noDigit r) (hk : k ≤ 200) :
    ToldL (n + 1) (Sum.inr (Sum.inl xs)) m k r := by
  have et : tell (n + 1) (Sum.inr (Sum.inl xs)) = 91 :: (commas (xs.map (tell n)) ++ [93]) := rfl
  have en : nodes (n + 1) (Sum.inr (Sum.inl xs)) = 1 + (xs.map (nodes n)).sum := rfl
  have ed : depth (n + 1) (Sum.inr (Sum.inl xs)) = 1 + maxOf (xs.map (depth n)) := rfl
  have eX : tell (n + 1) (Sum.inr (Sum.inl xs)) ++ r = 91 :: (commas (xs.map (tell n)) ++ 93 :: r) := by rw [et]; simp
  unfold ToldL
  rw [eX, en, ed]
  have hv := value_first (m := m) (k := k) (r := 91 :: (commas (xs.map (tell n)) ++ 93 :: r)) rfl (by show (91 : UInt8) ∈ opens; decide)
  by_cases h200 : 200 ≤ k
  · exact Or.inr (Or.inl ⟨hv.1 h200, by omega⟩)
  cases m with
  | zero => exact Or.inr (Or.inr ⟨hv.2 (by omega) rfl (Or.inl rfl), by omega⟩)
  | succ m =>
    obtain ⟨hb, hsk⟩ := value_row (m := m) (k := k) (c := 91) (X := commas (xs.map (tell n)) ++ 93 :: r) (by omega) (Or.inl rfl)
    have hval : value (m + 1) k (91 :: (commas (xs.map (tell n)) ++ 93 :: r)) = match row 93 (oneItem (value m)) [] (k + 1) (91 :: (commas (xs.map (tell n)) ++ 93 :: r)) with
      | .error e => .error e
      | .ok (s, k', r') => .ok (Sum.inr (Sum.inl s), k', r') := by
      rw [value, if_neg (by simp [hb]), hsk, if_pos (show hd (91 :: (commas (xs.map (tell n)) ++ 93 :: r)) = 91 from rfl)]
      cases row 93 (oneItem (value m)) [] (k + 1) (91 :: (commas (xs.map (tell n)) ++ 93 :: r)) <;> rfl
    have hrow : RowTold m (row 93 (oneItem (value m)) [] (k + 1) (91 :: (commas (xs.map (tell n)) ++ 93 :: r))) (fun s' => s' = xs.map (lift n m)) (k + 1) (xs.map (nodes n)).sum (maxOf (xs.map (depth n))) r := by
      cases xs with
      | nil =>
        refine Or.inl ⟨[], ?_, rfl, by simp; omega, by simp [maxOf]⟩
        rfl
      | cons x rest =>
        have hh := tell_hd n x (hG x (by simp)) (match rest.map (tell n) with | [] => 93 :: r | _ :: _ => 44 :: (commas (rest.map (tell n)) ++ 93 :: r)) (by cases rest.map (tell n) <;> rfl)
        have eC : commas ((x :: rest).map (tell n)) ++ 93 :: r = tell n x ++ (match rest.map (tell n) with | [] => 93 :: r | _ :: _ => 44 :: (commas (rest.map (tell n)) ++ 93 :: r)) := commas_cons (tell n x) (rest.map (tell n)) (93 :: r)
        rw [← eC] at hh
        have hi := items_toldL ih m r rest x ((91 :: (commas ((x :: rest).map (tell n)) ++ 93 :: r)).length + 1) [] (k + 1) hG (by
          have := commas_ge ((x :: rest).map (tell n))
          simp only [List.length_map, List.length_cons, List.length_append] at this ⊢
          omega) (by omega)
        have hne : hd (commas ((x :: rest).map (tell n)) ++ 93 :: r) ≠ 93 := by
          intro e
          rw [e] at hh
          exact absurd hh.1 (by decide)
        have hgo : row 93 (oneItem (value m)) [] (k + 1) (91 :: (commas ((x :: rest).map (tell n)) ++ 93 :: r)) = rowGo 93 (oneItem (value m)) ((91 :: (commas ((x :: rest).map (tell n)) ++ 93 :: r)).length + 1) [] (k + 1) (commas ((x :: rest).map (tell n)) ++ 93 :: r) := by
          rw [row, List.tail_cons, skip_not hh.2, if_neg hne]
        rw [hgo]
        rcases hi with ⟨s', h1, rfl, h5, h6⟩ | h | h
        · exact Or.inl ⟨_, h1, by simp, h5, h6⟩
        · exact Or.inr (Or.inl h)
        · exact Or.inr (Or.inr h)
    rw [hval]
    rcases hrow with ⟨s', h1, rfl, h5, h6⟩ | ⟨h1, h5⟩ | ⟨h1, h5⟩
    · refine Or.inl ⟨?_, by omega, by omega⟩
      rw [h1]
      simp only [Nat.add_assoc]
      rfl
    · exact Or.inr (Or.inl ⟨by rw [h1], by omega⟩)
    · exact Or.inr (Or.inr ⟨by rw [h1], by omega⟩)
theorem fields_toldL {n : Nat} (ih : ToldLAt n) (m : Nat) (r : Bs) : ∀ (rest : List (Bs × J n)) (x : Bs × J n) (f : Nat) (s : List (Bs × J m)) (k : Nat), (∀ y ∈ x :: rest, (∀ c ∈ y.1, meant c = true) ∧ Good n y.2) → Rising (x :: rest) → (∀ g ∈ s, ∀ y ∈ x :: rest, less g.1 y.1 = true) → rest.length < f → k ≤ 200 →
    RowTold m (rowGo 125 (oneField (value m)) f s k (commas ((x :: rest).map (fieldT n)) ++ 125 :: r)) (fun s' => s' = s ++ (x :: rest).map (fun f => (f.1, lift n m f.2))) k ((x :: rest).map (fun f => nodes n f.2)).sum (maxOf ((x :: rest).map (fun f => depth n f.2))) r
  | [], x, 0, s, k, hG, hR, hs, hf, hk => by omega
  | [], x, f + 1, s, k, hG, hR, hs, hf, hk => by
    have hx := hG x (by simp)
    have h1 := ih x.2 hx.2 m k (125 :: r) (by show isDigit 125 = false; decide) hk
    have e : commas (([x] : List (Bs × J n)).map (fieldT n)) ++ 125 :: r = quote x.1 ++ 58 :: (tell n x.2 ++ 125 :: r) := by simp [commas, fieldT]
    have hn := nameE_told (X := tell n x.2 ++ 125 :: r) hx.1 (fun g hg => hs g hg x (by simp))
    rw [e]
    have em : (([x] : List (Bs × J n)).map (fun f => nodes n f.2)).sum = nodes n x.2 := by simp
    have ed : maxOf (([x] : List (Bs × J n)).map (fun f => depth n f.2)) = depth n x.2 := by simp [maxOf]
    rw [em, ed]
    rcases h1 with ⟨hv, h200, hm⟩ | ⟨hv, h200⟩ | ⟨hv, hm⟩
    · refine Or.inl ⟨s ++ [(x.1, lift n m x.2)], ?_, rfl, h200, hm⟩
      rw [rowGo, oneField, hn]
      simp only [hv]
      rw [insert_end_of (lift n m x.2) (fun g hg => hs g hg x (by simp))]
      rfl
    · refine Or.inr (Or.inl ⟨?_, h200⟩)
      rw [rowGo, oneField, hn]
      simp only [hv]
    · refine Or.inr (Or.inr ⟨?_, hm⟩)
      rw [rowGo, oneField, hn]
      simp only [hv]
  | y :: rest, x, 0, s, k, hG, hR, hs, hf, hk => by omega
  | y :: rest, x, f + 1, s, k, hG, hR, hs, hf, hk => by
    have hx := hG x (by simp)
    have h1 := ih x.2 hx.2 m k (44 :: (commas ((y :: rest).map (fieldT n)) ++ 125 :: r)) (by show isDigit 44 = false; decide) hk
    have e : commas ((x :: y :: rest).map (fieldT n)) ++ 125 :: r = quote x.1 ++ 58 :: (tell n x.2 ++ 44 :: (commas ((y :: rest).map (fieldT n)) ++ 125 :: r)) := by simp [commas, fieldT]
    have hn := nameE_told (X := tell n x.2 ++ 44 :: (commas ((y :: rest).map (fieldT n)) ++ 125 :: r)) hx.1 (fun g hg => hs g hg x (by simp))
    rw [e]
    have em : ((x :: y :: rest).map (fun f => nodes n f.2)).sum = nodes n x.2 + ((y :: rest).map (fun f => nodes n f.2)).sum := by simp
    have ed : maxOf ((x :: y :: rest).map (fun f => depth n f.2)) = max (depth n x.2) (maxOf ((y :: rest).map (fun f => depth n f.2))) := rfl
    rw [em, ed]
    have hR' := List.pairwise_cons.1 hR
    rcases h1 with ⟨hv, h200, hm⟩ | ⟨hv, h200⟩ | ⟨hv, hm⟩
    · have ih2 := fields_toldL ih m r rest y f (s ++ [(x.1, lift n m x.2)]) (k + nodes n x.2) (fun z hz => hG z (by simp at hz ⊢; exact Or.inr hz)) hR'.2 (fun g hg z hz => by
          rcases List.mem_append.1 hg with hg | hg
          · exact hs g hg z (by simp at hz ⊢; exact Or.inr hz)
          · have hg := List.mem_singleton.1 hg
            subst hg
            exact hR'.1 z hz) (by simp at hf; omega) h200
      have hgo : rowGo 125 (oneField (value m)) (f + 1) s k (quote x.1 ++ 58 :: (tell n x.2 ++ 44 :: (commas ((y :: rest).map (fieldT n)) ++ 125 :: r))) = rowGo 125 (oneField (value m)) f (s ++ [(x.1, lift n m x.2)]) (k + nodes n x.2) (commas ((y :: rest).map (fieldT n)) ++ 125 :: r) := by
        rw [rowGo, oneField, hn]
        simp only [hv]
        rw [insert_end_of (lift n m x.2) (fun g hg => hs g hg x (by simp))]
        rfl
      rw [hgo]
      rcases ih2 with ⟨s', hr, rfl, h4, h5⟩ | ⟨hr, h4⟩ | ⟨hr, h4⟩
      · refine Or.inl ⟨_, ?_, rfl, by omega, by omega⟩
        rw [hr]
        simp [Nat.add_assoc]
      · exact Or.inr (Or.inl ⟨hr, by omega⟩)
      · exact Or.inr (Or.inr ⟨hr, by omega⟩)
    · refine Or.inr (Or.inl ⟨?_, by omega⟩)
      rw [rowGo, oneField, hn]
      simp only [hv]
    · refine Or.inr (Or.inr ⟨?_, by omega⟩)
      rw [rowGo, oneField, hn]
      simp only [hv]
theorem told_objectL {n : Nat} (ih : ToldLAt n) (fs : List (Bs × J n)) (hR : Rising fs) (hG : ∀ f ∈ fs, (∀ c ∈ f.1, meant c = true) ∧ Good n f.2) (m k : Nat) (r : Bs) (hr : noDigit r) (hk : k ≤ 200) :
    ToldL (n + 1) (Sum.inr (Sum.inr fs)) m k r := by
  have et : tell (n + 1) (Sum.inr (Sum.inr fs)) = 123 :: (commas (fs.map (fieldT n)) ++ [125]) := rfl
  have en : nodes (n + 1) (Sum.inr (Sum.inr fs)) = 1 + (fs.map (fun f => nodes n f.2)).sum := rfl
  have ed : depth (n + 1) (Sum.inr (Sum.inr fs)) = 1 + maxOf (fs.map (fun f => depth n f.2)) := rfl
  have eX : tell (n + 1) (Sum.inr (Sum.inr fs)) ++ r = 123 :: (commas (fs.map (fieldT n)) ++ 125 :: r) := by rw [et]; simp
  unfold ToldL
  rw [eX, en, ed]
  have hv := value_first (m := m) (k := k) (r := 123 :: (commas (fs.map (fieldT n)) ++ 125 :: r)) rfl (by show (123 : UInt8) ∈ opens; decide)
  by_cases h200 : 200 ≤ k
  · exact Or.inr (Or.inl ⟨hv.1 h200, by omega⟩)
  cases m with
  | zero => exact Or.inr (Or.inr ⟨hv.2 (by omega) rfl (Or.inr rfl), by omega⟩)
  | succ m =>
    obtain ⟨hb, hsk⟩ := value_row (m := m) (k := k) (c := 123) (X := commas (fs.map (fieldT n)) ++ 125 :: r) (by omega) (Or.inr rfl)
    have hval : value (m + 1) k (123 :: (commas (fs.map (fieldT n)) ++ 125 :: r)) = match row 125 (oneField (value m)) [] (k + 1) (123 :: (commas (fs.map (fieldT n)) ++ 125 :: r)) with
      | .error e => .error e
      | .ok (s, k', r') => .ok (Sum.inr (Sum.inr s), k', r') := by
      rw [value, if_neg (by simp [hb]), hsk, if_neg (show ¬ hd (123 :: (commas (fs.map (fieldT n)) ++ 125 :: r)) = 91 from by show ¬ (123 : UInt8) = 91; decide), if_pos (show hd (123 :: (commas (fs.map (fieldT n)) ++ 125 :: r)) = 123 from rfl)]
      cases row 125 (oneField (value m)) [] (k + 1) (123 :: (commas (fs.map (fieldT n)) ++ 125 :: r)) <;> rfl
    have hrow : RowTold m (row 125 (oneField (value m)) [] (k + 1) (123 :: (commas (fs.map (fieldT n)) ++ 125 :: r))) (fun s' => s' = fs.map (fun f => (f.1, lift n m f.2))) (k + 1) (fs.map (fun f => nodes n f.2)).sum (maxOf (fs.map (fun f => depth n f.2))) r := by
      cases fs with
      | nil =>
        refine Or.inl ⟨[], ?_, rfl, by simp; omega, by simp [maxOf]⟩
        rfl
      | cons x rest =>
        have hi := fields_toldL ih m r rest x ((123 :: (commas ((x :: rest).map (fieldT n)) ++ 125 :: r)).length + 1) [] (k + 1) hG hR (fun g hg => by simp at hg) (by
          have := commas_ge ((x :: rest).map (fieldT n))
          simp only [List.length_map, List.length_cons, List.length_append] at this ⊢
          omega) (by omega)
        have hh : hd (commas ((x :: rest).map (fieldT n)) ++ 125 :: r) = 34 := by
          cases rest <;> rfl
        have hgo : row 125 (oneField (value m)) [] (k + 1) (123 :: (commas ((x :: rest).map (fieldT n)) ++ 125 :: r)) = rowGo 125 (oneField (value m)) ((123 :: (commas ((x :: rest).map (fieldT n)) ++ 125 :: r)).length + 1) [] (k + 1) (commas ((x :: rest).map (fieldT n)) ++ 125 :: r) := by
          rw [row, List.tail_cons, skip_not (by rw [hh]; rfl), if_neg (by rw [hh]; decide)]
        rw [hgo]
        rcases hi with ⟨s', h1, rfl, h5, h6⟩ | h | h
        · exact Or.inl ⟨_, h1, by simp, h5, h6⟩
        · exact Or.inr (Or.inl h)
        · exact Or.inr (Or.inr h)
    rw [hval]
    rcases hrow with ⟨s', h1, rfl, h5, h6⟩ | ⟨h1, h5⟩ | ⟨h1, h5⟩
    · refine Or.inl ⟨?_, by omega, by omega⟩
      rw [h1]
      simp only [Nat.add_assoc]
      rfl
    · exact Or.inr (Or.inl ⟨by rw [h1], by omega⟩)
    · exact Or.inr (Or.inr ⟨by rw [h1], by omega⟩)
theorem told_anyL : ∀ n, ToldLAt n
  | 0 => fun j h m k r hr hk => leaf_value m k j h r hr hk
  | n + 1 => fun j h m k r hr hk => by
    have ih := told_anyL n
    match j, h with
    | Sum.inl l, h => exact leaf_value m k l h r hr hk
    | Sum.inr (Sum.inl xs), h => exact told_listL ih xs h m k r hr hk
    | Sum.inr (Sum.inr fs), h => exact told_objectL ih fs h.1 h.2 m k r hr hk
/-- what is told of a value within the limits is read as that value -/
theorem read_told {n : Nat} {j : J n} (hg : Good n j) (hn : nodes n j ≤ 200) (hd' : depth n j ≤ 10) (hl : (tell n j).length ≤ 2000) : read (tell n j) = .ok (lift n 10 j) := by
  have h := told_anyL n j hg 10 0 [] noDigit_nil (by omega)
  unfold ToldL at h
  rw [List.append_nil] at h
  unfold read
  rw [if_neg (by omega)]
  rcases h with ⟨hv, h1, h2⟩ | ⟨hv, h1⟩ | ⟨hv, h1⟩
  · rw [hv]
    rfl
  · omega
  · omega
end Go.Proofs.YtaogilpkeeigoabGreatDoor
/- Contracts over this translation: what was made is told; a text is read, with room; what is known of what was read. -/
namespace Go.Proofs.YtaogilpkeeigoabGreatDoor
open Go.RowKit
set_option linter.unusedVariables false
set_option linter.unusedSimpArgs false
abbrev S0 (w : World) (n : Nat) (j : J n) (v : Value) : Prop := St (fun _ => False) w n j v
theorem St.s0 {av : Nat → Prop} {w : World} {n : Nat} {j : J n} {v : Value} (h : St av w n j v) : S0 w n j v := h.mono (fun c _ hf => hf.elim)
theorem St.on {av : Nat → Prop} {w w' : World} {n : Nat} {j : J n} {v : Value} (h : St av w n j v) (hb : Below w.heap.size w w') : St av w' n j v := h.step hb.size (fun c hc _ => hb.block c hc)
theorem size_of (l : Bs) : (⟨l.toArray⟩ : ByteArray).size = l.length := by simp [ByteArray.size]
/-- what is told of a value -/
def toldE (n : Nat) (j : J n) : Array Value :=
  if 10 < depth n j then #[.string ByteArray.empty, .int .i64 4]
  else if 200 < nodes n j then #[.string ByteArray.empty, .int .i64 2]
  else if 2000 < (tell n j).length then #[.string ByteArray.empty, .int .i64 2]
  else #[.string ⟨(tell n j).toArray⟩, .int .i64 0]
/-- a value that may be told: what it holds is not too great to be looked at -/
structure Fine (n : Nat) (j : J n) : Prop where
  fit : Fit n j
  nodes : nodes n j ≤ 100000
  depth : depth n j ≤ 100000
  len : (tell n j).length ≤ 100000000
set_option maxRecDepth 100000 in
set_option maxHeartbeats 2000000 in
theorem tellJ_any (n : Nat) (j : J n) (v : Value) (w : World) (hSt : S0 w n j v) (hF : Fine n j) (hT : Tab w.heap.size w) :
    Calls Tryz.prog 22 #[v] w fun e w' => e = .returned (.tuple (toldE n j)) ∧ Below w.heap.size w w' := by
  have HM : Hid (Calls Tryz.prog 25 #[v] w fun e w' => e = .returned (.agg #[.int .i64 (nodes n j), .int .i64 (depth n j), .int .i64 (lens n j)]) ∧ Below w.heap.size w w') := measure_ok n _ j v w hSt hF.nodes hF.depth (Nat.le_trans (lens_le n j) hF.len)
  have HX : Hid (∀ w1, Below w.heap.size w w1 → Calls Tryz.prog 32 #[v] w1 fun e w' => e = .returned (.string ⟨(tell n j).toArray⟩) ∧ Below w1.heap.size w1 w') := fun w1 hb =>
    text_any n _ j v w1 (hSt.on hb) hF.fit ((hT.below hb).mono hb.size) hF.len
  have HE : Hid (toldE n j = if 10 < depth n j then #[.string ByteArray.empty, .int .i64 4] else if 200 < nodes n j then #[.string ByteArray.empty, .int .i64 2] else if 2000 < (tell n j).length then #[.string ByteArray.empty, .int .i64 2] else #[.string ⟨(tell n j).toArray⟩, .int .i64 0]) := rfl
  have hn1 := hF.nodes
  have hd1 := hF.depth
  have hsz : (⟨(tell n j).toArray⟩ : ByteArray).size = (tell n j).length := size_of _
  have hlen := hF.len
  have hbl := lens_le n j
  clear hSt hF hT
  generalize toldE n j = res at *
  generalize nodes n j = nn at *
  generalize depth n j = dd at *
  generalize lens n j = bb at *
  generalize (tell n j).length = ll at *
  generalize (⟨(tell n j).toArray⟩ : ByteArray) = tx at *
  go_enter Tryz.func22, Tryz.ntmps22
  go_wp2_with fail
  refine Calls.mono HM.out ?_
  rintro e w1 ⟨rfl, b1⟩
  have hxa : (w1.alloc (.cells #[.int .i64 nn, .int .i64 dd, .int .i64 bb] 52)).heap[w1.heap.size]? = some (.cells #[.int .i64 nn, .int .i64 dd, .int .i64 bb] 52 (0, 0)) := heap_alloc_new w1 _
  have x0 : (w1.alloc (.cells #[.int .i64 nn, .int .i64 dd, .int .i64 bb] 52)).cell? ⟨w1.heap.size, 0, none⟩ = some (.int .i64 nn) := by rw [cell_of_row _ _ _ _ _ _ hxa]; rfl
  have x1 : (w1.alloc (.cells #[.int .i64 nn, .int .i64 dd, .int .i64 bb] 52)).cell? ⟨w1.heap.size, 1, none⟩ = some (.int .i64 dd) := by rw [cell_of_row _ _ _ _ _ _ hxa]; rfl
  have x2 : (w1.alloc (.cells #[.int .i64 nn, .int .i64 dd, .int .i64 bb] 52)).cell? ⟨w1.heap.size, 2, none⟩ = some (.int .i64 bb) := by rw [cell_of_row _ _ _ _ _ _ hxa]; rfl
  have HBa : Hid (Below w.heap.size w (w1.alloc (.cells #[.int .i64 nn, .int .i64 dd, .int .i64 bb] 52))) := b1.alloc b1.size _
  clear hxa b1
  by_cases h10 : 10 < dd
  · have hI : (10 : Int) < (dd : Int) := by omega
    have HR : Hid (res = #[.string ByteArray.empty, .int .i64 4]) := by show _ = _; rw [HE.out, if_pos h10]
    go_wp2_with fail
    go_ret2
    exact ⟨by rw [HR.out]; rfl, HBa.out⟩
  · have hI : ¬ (10 : Int) < (dd : Int) := by omega
    by_cases h200 : 200 < nn
    · have hI2 : (200 : Int) < (nn : Int) := by omega
      have HR : Hid (res = #[.string ByteArray.empty, .int .i64 2]) := by show _ = _; rw [HE.out, if_neg h10, if_pos h200]
      go_wp2_with fail
      go_ret2
      exact ⟨by rw [HR.out]; rfl, HBa.out⟩
    · have hI2 : ¬ (200 : Int) < (nn : Int) := by omega
      have HR0 : Hid (res = if 2000 < ll then #[.string ByteArray.empty, .int .i64 2] else #[.string tx, .int .i64 0]) := by show _ = _; rw [HE.out, if_neg h10, if_neg h200]
      clear h10 h200
      by_cases hbb : 2000 < bb
      · have hI4 : (2000 : Int) < (bb : Int) := by omega
        have HR : Hid (res = #[.string ByteArray.empty, .int .i64 2]) := by show _ = _; rw [HR0.out, if_pos (by omega)]
        go_wp2_with fail
        go_ret2
        exact ⟨by rw [HR.out]; rfl, HBa.out⟩
      · have hI4 : ¬ (2000 : Int) < (bb : Int) := by omega
        go_wp2_with fail
        generalize w1.alloc (.cells #[.int .i64 nn, .int .i64 dd, .int .i64 bb] 52) = wa at *
        refine Calls.mono (HX.out _ HBa.out) ?_
        rintro e w2 ⟨rfl, b2⟩
        have HB2 : Hid (Below w.heap.size w w2) := HBa.out.trans (b2.mono HBa.out.size)
        clear b2 x0 x1 x2
        by_cases h2000 : 2000 < ll
        · have hI3 : (2000 : Int) < (tx.size : Int) := by omega
          have HR : Hid (res = #[.string ByteArray.empty, .int .i64 2]) := by show _ = _; rw [HR0.out, if_pos h2000]
          go_wp2_with fail
          go_ret2
          exact ⟨by rw [HR.out]; rfl, HB2.out⟩
        · have hI3 : ¬ (2000 : Int) < (tx.size : Int) := by omega
          have HR : Hid (res = #[.string tx, .int .i64 0]) := by show _ = _; rw [HR0.out, if_neg h2000]
          go_wp2_with fail
          go_ret2
          exact ⟨by rw [HR.out]; rfl, HB2.out⟩
/-- a text read as a value, with room -/
def rd20 (N : Nat) (s : Bs) : Except Nat (J N) := (read s).map (lift 10 N)
theorem rd20_err {N : Nat} {s : Bs} {e : Nat} (h : read s = .error e) : rd20 N s = .error e := by unfold rd20; rw [h]; rfl
theorem rd20_ok {N : Nat} {s : Bs} {j : J 10} (h : read s = .ok j) : rd20 N s = .ok (lift 10 N j) := by unfold rd20; rw [h]; rfl
theorem st_lift {av : Nat → Prop} {w : World} : ∀ (n m : Nat) (j : J n) (v : Value), depth n j ≤ m → St av w n j v → St av w m (lift n m j) v
  | 0, m, l, v, _, h => by
    have e : v = leafV l := h
    subst e
    exact st_leaf av w m l
  | _ + 1, m, Sum.inl l, v, _, h => by
    have e : v = leafV l := h
    subst e
    exact st_leaf av w m l
  | n + 1, 0, Sum.inr (Sum.inl xs), v, hd, h => by
    have h1 : 1 + maxOf (xs.map (depth n)) ≤ 0 := hd
    omega
  | n + 1, 0, Sum.inr (Sum.inr fs), v, hd, h => by
    have h1 : 1 + maxOf (fs.map fun f => depth n f.2) ≤ 0 := hd
    omega
  | n + 1, m + 1, Sum.inr (Sum.inl xs), v, hd, h => by
    rcases h with ⟨rfl, rfl⟩ | ⟨g, cap, vs, hv, hl, hc, hm, hg, hlt, hcell, hel⟩
    · exact Or.inl ⟨rfl, rfl⟩
    · refine Or.inr ⟨g, cap, vs, by rw [hv, List.length_map], by rw [hl, List.length_map], by rw [List.length_map]; exact hc, hm, hg, hlt, hcell, fun i x u hx hu => ?_⟩
      rw [List.getElem?_map] at hx
      obtain ⟨y, hy, rfl⟩ := Option.map_eq_some_iff.1 hx
      exact st_lift n m y u (deep_item hd y (List.mem_of_getElem? hy)) (hel i y u hy hu)
  | n + 1, m + 1, Sum.inr (Sum.inr fs), v, hd, h => by
    rcases h with ⟨rfl, rfl⟩ | ⟨g, cap, vs, hv, hl, hc, hm, hg, hlt, hcell, hel⟩
    · exact Or.inl ⟨rfl, rfl⟩
    · refine Or.inr ⟨g, cap, vs, by rw [hv, List.length_map], by rw [hl, List.length_map], by rw [List.length_map]; exact hc, hm, hg, hlt, fun i f u hf hu => ?_, fun i f u hf hu => ?_⟩
      · rw [List.getElem?_map] at hf
        obtain ⟨y, hy, rfl⟩ := Option.map_eq_some_iff.1 hf
        exact hcell i y u hy hu
      · rw [List.getElem?_map] at hf
        obtain ⟨y, hy, rfl⟩ := Option.map_eq_some_iff.1 hf
        exact st_lift n m y.2 u (deep_field hd y (List.mem_of_getElem? hy)) (hel i y u hy hu)
set_option maxRecDepth 100000 in
set_option maxHeartbeats 2000000 in
theorem read20_any (N : Nat) (hN : 20 ≤ N) (t : ByteArray) (w : World) (hs : t.size ≤ maxLen) :
    Calls Tryz.prog 23 #[.string t] w fun e w' => Below w.heap.size w w' ∧ ((∃ er : Nat, rd20 N t.data.toList = .error er ∧ er ≠ 0 ∧ er < 100 ∧ e = .returned (.tuple #[.nilIface, .int .i64 er])) ∨ ∃ (D : J N) (T : TypeId) (x : Value), rd20 N t.data.toList = .ok D ∧ e = .returned (.tuple #[.iface T x, .int .i64 0]) ∧ S0 w' N D (.iface T x)) := by
  refine (read_any t w hs).mono ?_
  rintro e w1 ⟨b1, h1⟩
  refine ⟨b1, ?_⟩
  rcases h1 with ⟨er, hr, h2, h3, rfl⟩ | ⟨j, v, hr, rfl, ⟨T, x, rfl⟩, hst⟩
  · exact Or.inl ⟨er, rd20_err hr, h2, h3, rfl⟩
  · exact Or.inr ⟨lift 10 N j, T, x, rd20_ok hr, rfl, st_lift 10 N j _ (Nat.le_trans (depth_bound 10 j) (by omega)) hst.s0⟩
/-- within the limits of documents -/
structure Told20 (N : Nat) (D : J N) : Prop where
  good : Good N D
  nodes : nodes N D ≤ 200
  depth : depth N D ≤ 10
  len : (tell N D).length ≤ 2000
theorem rd20_told {N : Nat} (hN : 20 ≤ N) {s : Bs} {D : J N} (h : rd20 N s = .ok D) : Told20 N D := by
  unfold rd20 at h
  cases hr : read s with
  | error e => rw [hr] at h; cases h
  | ok j =>
    rw [hr] at h
    have e : lift 10 N j = D := by
      have h' : Except.ok (lift 10 N j) = (Except.ok D : Except Nat (J N)) := h
      exact Except.ok.inj h'
    subst e
    have hs := lift_said 10 N j (Nat.le_trans (depth_bound 10 j) (by omega))
    have h1 := read_size hr
    have h2 := read_short hr
    exact ⟨good_lift _ _ _ (read_good hr), by rw [hs.2.1]; omega, by rw [hs.2.2.1]; omega, by rw [hs.1]; omega⟩
theorem Told20.fine {N : Nat} {D : J N} (h : Told20 N D) : Fine N D := ⟨fit_of_good _ _ h.good, by have := h.nodes; omega, by have := h.depth; omega, by have := h.len; omega⟩
theorem Told20.told {N : Nat} {D : J N} (h : Told20 N D) : toldE N D = #[.string ⟨(tell N D).toArray⟩, .int .i64 0] := by
  unfold toldE
  rw [if_neg (by have := h.depth; omega), if_neg (by have := h.nodes; omega), if_neg (by have := h.len; omega)]
/-- what is told is read as it was -/
theorem Told20.again {N : Nat} {D : J N} (hN : 20 ≤ N) (h : Told20 N D) : rd20 N (tell N D) = .ok D := by
  rw [rd20_ok (read_told h.good h.nodes h.depth h.len), lift_lift _ _ _ _ h.depth, lift_self]
theorem toldE_form (n : Nat) (j : J n) : ∃ (s : ByteArray) (er : Nat), toldE n j = #[.string s, .int .i64 er] := by
  unfold toldE
  split
  · exact ⟨_, 4, rfl⟩
  · split
    · exact ⟨_, 2, rfl⟩
    · split
      · exact ⟨_, 2, rfl⟩
      · exact ⟨_, 0, rfl⟩
end Go.Proofs.YtaogilpkeeigoabGreatDoor
/- Contracts over this translation of Merge and Lost (where nothing goes), as a law's walk takes them. -/
namespace Go.Proofs.YtaogilpkeeigoabGreatDoor
open Go.RowKit
set_option linter.unusedVariables false
set_option linter.unusedSimpArgs false
theorem thr_ok : ∀ n, ThrOK n
  | 0 => fun av w a b x va vb T y way gv hav ha hb hx oka okb okx hw hg => tmerged_flat av 0 w a b x va vb T y way gv ha.isV hb.isV hx rfl
  | n + 1 => fun av w a b x va vb T y way gv hav ha hb hx oka okb okx hw hg => by
    cases hj : isObjJ (n + 1) x with
    | false => exact tmerged_flat av (n + 1) w a b x va vb T y way gv ha.isV hb.isV hx hj
    | true =>
      match x, hj, hx, okx, hg with
      | Sum.inr (Sum.inr fs), _, hx, okx, hg =>
        obtain ⟨rfl, p, cap, rfl⟩ := obj_st hx
        exact tmerged_obj av n (thr_ok n) w a b fs va vb p cap way gv hav ha hb hx oka okb okx hw hg
theorem Told20.okT {N : Nat} {D : J N} (h : Told20 N D) : OkT N D := ⟨h.good, by have := h.nodes; omega⟩
def rd3 (N : Nat) (x y z : Bs) : Except Nat (J N × J N × J N) :=
  match rd20 N x with
  | .error e => .error e
  | .ok a => match rd20 N y with
    | .error e => .error e
    | .ok b => match rd20 N z with
      | .error e => .error e
      | .ok c => .ok (a, b, c)
theorem rd3_1 {N : Nat} {x y z : Bs} {e : Nat} (h : rd20 N x = .error e) : rd3 N x y z = .error e := by simp only [rd3, h]
theorem rd3_2 {N : Nat} {x y z : Bs} {e : Nat} {a : J N} (h : rd20 N x = .ok a) (h2 : rd20 N y = .error e) : rd3 N x y z = .error e := by simp only [rd3, h, h2]
theorem rd3_3 {N : Nat} {x y z : Bs} {e : Nat} {a b : J N} (h : rd20 N x = .ok a) (h2 : rd20 N y = .ok b) (h3 : rd20 N z = .error e) : rd3 N x y z = .error e := by simp only [rd3, h, h2, h3]
theorem rd3_4 {N : Nat} {x y z : Bs} {a b c : J N} (h : rd20 N x = .ok a) (h2 : rd20 N y = .ok b) (h3 : rd20 N z = .ok c) : rd3 N x y z = .ok (a, b, c) := by simp only [rd3, h, h2, h3]
set_option maxRecDepth 100000 in
set_option maxHeartbeats 2000000 in
theorem read20b (N : Nat) (hN : 20 ≤ N) (t : ByteArray) (w : World) (hs : t.size ≤ maxLen) :
    Calls Tryz.prog 23 #[.string t] w fun e w' => Below w.heap.size w w' ∧ ((∃ er : Nat, rd20 N t.data.toList = .error er ∧ er ≠ 0 ∧ er < 100 ∧ e = .returned (.tuple #[.nilIface, .int .i64 er])) ∨ ∃ (D : J N) (T : TypeId) (x : Value), rd20 N t.data.toList = .ok D ∧ e = .returned (.tuple #[.iface T x, .int .i64 0]) ∧ St (fun c => c < w.heap.size) w' N D (.iface T x)) := by
  refine (read_any t w hs).mono ?_
  rintro e w1 ⟨b1, h1⟩
  refine ⟨b1, ?_⟩
  rcases h1 with ⟨er, hr, h2, h3, rfl⟩ | ⟨j, v, hr, rfl, ⟨T, x, rfl⟩, hst⟩
  · exact Or.inl ⟨er, rd20_err hr, h2, h3, rfl⟩
  · exact Or.inr ⟨lift 10 N j, T, x, rd20_ok hr, rfl, st_lift 10 N j _ (Nat.le_trans (depth_bound 10 j) (by omega)) hst⟩
def BoxA (w : World) (g : Nat) (a b c : Value) : Prop := w.heap[g]? = some (.cells #[a, b, c] 85 (0, 0))
section
variable {w w' : World} {g : Nat} {a b c : Value}
theorem BoxA.lt (h : BoxA w g a b c) : g < w.heap.size := lt_of_block h
theorem BoxA.free (h : BoxA w g a b c) (o : Nat) : w.frozen? ⟨g, o, none⟩ = false := frozen_of_row _ _ _ _ _ h
theorem BoxA.c0 (h : BoxA w g a b c) : w.cell? ⟨g, 0, none⟩ = some a := by rw [cell_of_row _ _ _ _ _ _ h]; rfl
theorem BoxA.c1 (h : BoxA w g a b c) : w.cell? ⟨g, 1, none⟩ = some b := by rw [cell_of_row _ _ _ _ _ _ h]; rfl
theorem BoxA.c2 (h : BoxA w g a b c) : w.cell? ⟨g, 2, none⟩ = some c := by rw [cell_of_row _ _ _ _ _ _ h]; rfl
theorem BoxA.below (h : BoxA w g a b c) (e : Below w.heap.size w w') : BoxA w' g a b c := (e.block g h.lt).trans h
theorem boxA_new (w : World) (a b c : Value) : BoxA (w.alloc (.cells #[a, b, c] 85)) w.heap.size a b c := heap_alloc_new w _
theorem BoxA.set0 (h : BoxA w g a b c) (v : Value) : BoxA (w.setCell ⟨g, 0, none⟩ v) g v b c := heap_setCell_same w g 0 _ _ v h
theorem BoxA.set1 (h : BoxA w g a b c) (v : Value) : BoxA (w.setCell ⟨g, 1, none⟩ v) g a v c := heap_setCell_same w g 1 _ _ v h
theorem BoxA.set2 (h : BoxA w g a b c) (v : Value) : BoxA (w.setCell ⟨g, 2, none⟩ v) g a b v := heap_setCell_same w g 2 _ _ v h
end
/-- a value that keeps away from a block -/
def Off (B : Nat) (w : World) (N : Nat) (D : J N) (v : Value) : Prop := St (fun c => c = B) w N D v
theorem Off.below {B N : Nat} {w w' : World} {D : J N} {v : Value} (h : Off B w N D v) (b : Below w.heap.size w w') : Off B w' N D v := h.ona b
theorem Off.set {B N o : Nat} {w : World} {D : J N} {v u : Value} (h : Off B w N D v) : Off B (w.setCell ⟨B, o, none⟩ u) N D v := by
  have k := grownBy_setCell w B o u
  exact St.move k.size (fun c hc hn => k.block c hc (fun e => hn (Option.some.inj e))) (fun c hc hn => hn) N D v h
theorem off_of {B N : Nat} {w w' : World} {D : J N} {v : Value} (h : St (fun c => c < w.heap.size) w' N D v) (hB : B < w.heap.size) : Off B w' N D v := h.mono (fun c _ e => by subst e; exact hB)
theorem idx3_0 (a b c : ByteArray) (w : World) : (Instr.index 86 (.agg #[.string a, .string b, .string c]) (.int .i64 0)).run Tryz.prog w = .ok (.string a) w := by simp [Instr.index, go_sem]
theorem idx3_1 (a b c : ByteArray) (w : World) : (Instr.index 86 (.agg #[.string a, .string b, .string c]) (.int .i64 1)).run Tryz.prog w = .ok (.string b) w := by simp [Instr.index, go_sem]
theorem idx3_2 (a b c : ByteArray) (w : World) : (Instr.index 86 (.agg #[.string a, .string b, .string c]) (.int .i64 2)).run Tryz.prog w = .ok (.string c) w := by simp [Instr.index, go_sem]
def M3 (N : Nat) (w : World) (sa sb sc : Bs) (i : Value) (wr : World) : Prop :=
  Below w.heap.size w wr ∧
  ((i = .int .i64 0 ∧ BoxA wr w.heap.size .nilIface .nilIface .nilIface) ∨
   (∃ A T x, i = .int .i64 1 ∧ rd20 N sa = .ok A ∧ Off w.heap.size wr N A (.iface T x) ∧ BoxA wr w.heap.size (.iface T x) .nilIface .nilIface) ∨
   (∃ A T x B T' x', i = .int .i64 2 ∧ rd20 N sa = .ok A ∧ rd20 N sb = .ok B ∧ Off w.heap.size wr N A (.iface T x) ∧ Off w.heap.size wr N B (.iface T' x') ∧ BoxA wr w.heap.size (.iface T x) (.iface T' x') .nilIface) ∨
   (∃ A T x B T' x' C T'' x'', i = .int .i64 3 ∧ rd20 N sa = .ok A ∧ rd20 N sb = .ok B ∧ rd20 N sc = .ok C ∧ Off w.heap.size wr N A (.iface T x) ∧ Off w.heap.size wr N B (.iface T' x') ∧ Off w.heap.size wr N C (.iface T'' x'') ∧ BoxA wr w.heap.size (.iface T x) (.iface T' x') (.iface T'' x'')))
def InPost (N : Nat) (r : Except Nat (J N × J N × J N)) (w : World) (e : Ending) (w' : World) : Prop :=
  Below w.heap.size w w' ∧ ((∃ er : Nat, r = .error er ∧ er ≠ 0 ∧ er < 100 ∧ e = .returned (.tuple #[.nilIface, .int .i64 er])) ∨ ∃ A B C T y, r = .ok (A, B, C) ∧ e = .returned (.tuple #[.iface T y, .int .i64 0]) ∧ S0 w' N (threeP N (some A) (some B) C) (.iface T y))
set_option maxRecDepth 100000 in
set_option maxHeartbeats 4000000 in
theorem inner_any (N : Nat) (hN : 20 ≤ N) (hN2 : N ≤ 1000) (a b c : ByteArray) (gv : Value) (w : World) (ha : a.size ≤ maxLen) (hb : b.size ≤ maxLen) (hc : c.size ≤ maxLen) (hgv : gv = goNot ∨ ∀ A B C, rd3 N a.data.toList b.data.toList c.data.toList = .ok (A, B, C) → noLoss N (some A) (some B) C) :
    Calls Tryz.prog 27 #[.string a, .string b, .string c, gv] w (InPost N (rd3 N a.data.toList b.data.toList c.data.toList) w) := by
  have HRa : Hid (∀ w1, Calls Tryz.prog 23 #[.string a] w1 fun e w' => Below w1.heap.size w1 w' ∧ ((∃ er : Nat, rd20 N a.data.toList = .error er ∧ er ≠ 0 ∧ er < 100 ∧ e = .returned (.tuple #[.nilIface, .int .i64 er])) ∨ ∃ (D : J N) (T : TypeId) (x : Value), rd20 N a.data.toList = .ok D ∧ e = .returned (.tuple #[.iface T x, .int .i64 0]) ∧ St (fun c => c < w1.heap.size) w' N D (.iface T x))) := fun w1 => read20b N hN a w1 ha
  have HRb : Hid (∀ w1, Calls Tryz.prog 23 #[.string b] w1 fun e w' => Below w1.heap.size w1 w' ∧ ((∃ er : Nat, rd20 N b.data.toList = .error er ∧ er ≠ 0 ∧ er < 100 ∧ e = .returned (.tuple #[.nilIface, .int .i64 er])) ∨ ∃ (D : J N) (T : TypeId) (x : Value), rd20 N b.data.toList = .ok D ∧ e = .returned (.tuple #[.iface T x, .int .i64 0]) ∧ St (fun c => c < w1.heap.size) w' N D (.iface T x))) := fun w1 => read20b N hN b w1 hb
  have HRc : Hid (∀ w1, Calls Tryz.prog 23 #[.string c] w1 fun e w' => Below w1.heap.size w1 w' ∧ ((∃ er : Nat, rd20 N c.data.toList = .error er ∧ er ≠ 0 ∧ er < 100 ∧ e = .returned (.tuple #[.nilIface, .int .i64 er])) ∨ ∃ (D : J N) (T : TypeId) (x : Value), rd20 N c.data.toList = .ok D ∧ e = .returned (.tuple #[.iface T x, .int .i64 0]) ∧ St (fun c => c < w1.heap.size) w' N D (.iface T x))) := fun w1 => read20b N hN c w1 hc
  obtain ⟨sa, hsa⟩ : ∃ sa, a.data.toList = sa := ⟨_, rfl⟩
  obtain ⟨sb, hsb⟩ : ∃ sb, b.data.toList = sb := ⟨_, rfl⟩
  obtain ⟨sc, hsc⟩ : ∃ sc, c.data.toList = sc := ⟨_, rfl⟩
  rw [hsa] at HRa
  rw [hsb] at HRb
  rw [hsc] at HRc
  rw [hsa, hsb, hsc] at hgv ⊢
  have HGv : Hid (gv = goNot ∨ ∀ A B C, rd3 N sa sb sc = .ok (A, B, C) → noLoss N (some A) (some B) C) := hgv
  have HN : Hid (20 ≤ N ∧ N ≤ 1000) := ⟨hN, hN2⟩
  have HX0 : Hid (BoxA (w.alloc (.cells #[.nilIface, .nilIface, .nilIface] 85)) w.heap.size .nilIface .nilIface .nilIface) := boxA_new w _ _ _
  have HB0 : Hid (Below w.heap.size w (w.alloc (.cells #[.nilIface, .nilIface, .nilIface] 85))) := (Below.refl _ _).alloc (Nat.le_refl _) _
  clear hgv hN hN2 ha hb hc hsa hsb hsc
  go_enter Tryz.func27, Tryz.ntmps27
  go_wp2_with fail
  go_loopw [20] (fun i wr => M3 N w sa sb sc i wr) (fun i _ => 3 - (intOf i).toNat)
  case atStart => exact ⟨HB0.out, Or.inl ⟨rfl, HX0.out⟩⟩
  case round =>
    obtain ⟨hB, h0 | h1 | h2 | h3⟩ := hrel
    · obtain ⟨rfl, hX⟩ := h0
      have HB : Hid (Below w.heap.size w wr) := hB
      have HX : Hid (BoxA wr w.heap.size .nilIface .nilIface .nilIface) := hX
      have hix := fun w9 => idx3_0 a b c w9
      clear hB hX
      go_wp2_with fail
      refine Calls.mono (HRa.out wr) ?_
      rintro e w1 ⟨b1, h1⟩
      have HB1 : Hid (Below w.heap.size w w1) := HB.out.trans (b1.mono HB.out.size)
      have HX1 : Hid (BoxA w1 w.heap.size .nilIface .nilIface .nilIface) := HX.out.below b1
      have hlt := HX.out.lt
      clear b1
      rcases h1 with ⟨er, hr, her, her2, rfl⟩ | ⟨D, Tn, xn, hr, rfl, hst⟩
      · have HE : Hid (rd3 N sa sb sc = .error er) := rd3_1 hr
        have hbe : ((er : Int) != 0) = true := by rw [bne_iff_ne]; omega
        clear hr
        go_wp2_with fail
        go_ret2
        exact ⟨HB1.out, Or.inl ⟨er, HE.out, her, her2, rfl⟩⟩
      · have HRd : Hid (rd20 N sa = .ok D) := hr
        have HD : Hid (Off w.heap.size w1 N D (.iface Tn xn)) := off_of hst hlt
        have z0 := HX1.out.c0
        have z1 := HX1.out.c1
        have z2 := HX1.out.c2
        have f0 := HX1.out.free 0
        clear hr hst hlt
        go_wp2_with fail
        go_roundw
        case rel =>
          have hrelN : M3 N w sa sb sc (.int .i64 1) (w1.setCell ⟨w.heap.size, 0, none⟩ (.iface Tn xn)) := ⟨HB1.out.grown (grownBy_setCell w1 w.heap.size 0 (.iface Tn xn)) HB1.out.size (fun k e => by cases e; exact Nat.le_refl _), Or.inr (Or.inl ⟨D, Tn, xn, rfl, HRd.out, HD.out.set, HX1.out.set0 _⟩)⟩
          first | exact hrelN | ((repeat apply Exists.intro); refine ⟨hrelN, ?eqz0⟩; case eqz0 => rfl)
        case measure => simp [intOf]
    · obtain ⟨A, T, x, rfl, rA, oA, hX⟩ := h1
      have RA : Hid (rd20 N sa = .ok A) := rA
      have OA : Hid (Off w.heap.size wr N A (.iface T x)) := oA
      clear rA oA
      have HB : Hid (Below w.heap.size w wr) := hB
      have HX : Hid (BoxA wr w.heap.size (.iface T x) .nilIface .nilIface) := hX
      have hix := fun w9 => idx3_1 a b c w9
      clear hB hX
      go_wp2_with fail
      refine Calls.mono (HRb.out wr) ?_
      rintro e w1 ⟨b1, h1⟩
      have HB1 : Hid (Below w.heap.size w w1) := HB.out.trans (b1.mono HB.out.size)
      have HX1 : Hid (BoxA w1 w.heap.size (.iface T x) .nilIface .nilIface) := HX.out.below b1
      have OA1 : Hid (Off w.heap.size w1 N A (.iface T x)) := OA.out.below b1
      have hlt := HX.out.lt
      clear b1
      rcases h1 with ⟨er, hr, her, her2, rfl⟩ | ⟨D, Tn, xn, hr, rfl, hst⟩
      · have HE : Hid (rd3 N sa sb sc = .error er) := rd3_2 RA.out hr
        have hbe : ((er : Int) != 0) = true := by rw [bne_iff_ne]; omega
        clear hr
        go_wp2_with fail
        go_ret2
        exact ⟨HB1.out, Or.inl ⟨er, HE.out, her, her2, rfl⟩⟩
      · have HRd : Hid (rd20 N sb = .ok D) := hr
        have HD : Hid (Off w.heap.size w1 N D (.iface Tn xn)) := off_of hst hlt
        have z0 := HX1.out.c0
        have z1 := HX1.out.c1
        have z2 := HX1.out.c2
        have f0 := HX1.out.free 1
        clear hr hst hlt
        go_wp2_with fail
        go_roundw
        case rel =>
          have hrelN : M3 N w sa sb sc (.int .i64 2) (w1.setCell ⟨w.heap.size, 1, none⟩ (.iface Tn xn)) := ⟨HB1.out.grown (grownBy_setCell w1 w.heap.size 1 (.iface Tn xn)) HB1.out.size (fun k e => by cases e; exact Nat.le_refl _), Or.inr (Or.inr (Or.inl ⟨A, T, x, D, Tn, xn, rfl, RA.out, HRd.out, OA1.out.set, HD.out.set, HX1.out.set1 _⟩))⟩
          first | exact hrelN | ((repeat apply Exists.intro); refine ⟨hrelN, ?eqz1⟩; case eqz1 => rfl)
        case measure => simp [intOf]
    · obtain ⟨A, T, x, B, T', x', rfl, rA, rB, oA, oB, hX⟩ := h2
      have RA : Hid (rd20 N sa = .ok A) := rA
      have RB : Hid (rd20 N sb = .ok B) := rB
      have OA : Hid (Off w.heap.size wr N A (.iface T x)) := oA
      have OB : Hid (Off w.heap.size wr N B (.iface T' x')) := oB
      clear rA oA rB oB
      have HB : Hid (Below w.heap.size w wr) := hB
      have HX : Hid (BoxA wr w.heap.size (.iface T x) (.iface T' x') .nilIface) := hX
      have hix := fun w9 => idx3_2 a b c w9
      clear hB hX
      go_wp2_with fail
      refine Calls.mono (HRc.out wr) ?_
      rintro e w1 ⟨b1, h1⟩
      have HB1 : Hid (Below w.heap.size w w1) := HB.out.trans (b1.mono HB.out.size)
      have HX1 : Hid (BoxA w1 w.heap.size (.iface T x) (.iface T' x') .nilIface) := HX.out.below b1
      have OA1 : Hid (Off w.heap.size w1 N A (.iface T x)) := OA.out.below b1
      have OB1 : Hid (Off w.heap.size w1 N B (.iface T' x')) := OB.out.below b1
      have hlt := HX.out.lt
      clear b1
      rcases h1 with ⟨er, hr, her, her2, rfl⟩ | ⟨D, Tn, xn, hr, rfl, hst⟩
      · have HE : Hid (rd3 N sa sb sc = .error er) := rd3_3 RA.out RB.out hr
        have hbe : ((er : Int) != 0) = true := by rw [bne_iff_ne]; omega
        clear hr
        go_wp2_with fail
        go_ret2
        exact ⟨HB1.out, Or.inl ⟨er, HE.out, her, her2, rfl⟩⟩
      · have HRd : Hid (rd20 N sc = .ok D) := hr
        have HD : Hid (Off w.heap.size w1 N D (.iface Tn xn)) := off_of hst hlt
        have z0 := HX1.out.c0
        have z1 := HX1.out.c1
        have z2 := HX1.out.c2
        have f0 := HX1.out.free 2
        clear hr hst hlt
        go_wp2_with fail
        go_roundw
        case rel =>
          have hrelN : M3 N w sa sb sc (.int .i64 3) (w1.setCell ⟨w.heap.size, 2, none⟩ (.iface Tn xn)) := ⟨HB1.out.grown (grownBy_setCell w1 w.heap.size 2 (.iface Tn xn)) HB1.out.size (fun k e => by cases e; exact Nat.le_refl _), Or.inr (Or.inr (Or.inr ⟨A, T, x, B, T', x', D, Tn, xn, rfl, RA.out, RB.out, HRd.out, OA1.out.set, OB1.out.set, HD.out.set, HX1.out.set2 _⟩))⟩
          first | exact hrelN | ((repeat apply Exists.intro); refine ⟨hrelN, ?eqz2⟩; case eqz2 => rfl)
        case measure => simp [intOf]
    · obtain ⟨A, T, x, B, T', x', C, T'', x'', rfl, rA, rB, rC, oA, oB, oC, hX⟩ := h3
      have HR : Hid (rd3 N sa sb sc = .ok (A, B, C)) := rd3_4 rA rB rC
      have tA := rd20_told HN.out.1 rA
      have tB := rd20_told HN.out.1 rB
      have tC := rd20_told HN.out.1 rC
      have z0 := hX.c0
      have z1 := hX.c1
      have z2 := hX.c2
      have HB : Hid (Below w.heap.size w wr) := hB
      have HMg : Hid (∀ w1, Below wr.heap.size wr w1 → Calls Tryz.prog 45 #[.agg #[.iface T x, .iface T' x', .iface T'' x''], .slice none 0 0, gv] w1 fun e w' => ∃ T1 y1, e = .returned (.iface T1 y1) ∧ S0 w' N (threeP N (some A) (some B) C) (.iface T1 y1) ∧ Below w1.heap.size w1 w') := fun w1 b1 =>
        thr_ok N (fun _ => False) w1 (some A) (some B) C _ _ T'' x'' (.slice none 0 0) gv (fun c e => e.elim) (Or.inr ⟨A, T, x, rfl, rfl, (oA.s0).ona b1⟩) (Or.inr ⟨B, T', x', rfl, rfl, (oB.s0).ona b1⟩) ((oC.s0).ona b1) (fun y e => by cases e; exact tA.okT) (fun y e => by cases e; exact tB.okT) tC.okT
          ⟨[], ⟨rfl, fun u hu => by simp at hu, Or.inl ⟨rfl, rfl⟩⟩, by have := HN.out.2; simp; omega⟩ (by
            rcases HGv.out with h | h
            · exact Or.inl h
            · exact Or.inr (h A B C HR.out))
      clear hB hX rA rB rC oA oB oC tA tB tC
      go_wp2_with fail
      refine Calls.mono (HMg.out _ ((Below.refl _ _).alloc (Nat.le_refl _) _)) ?_
      rintro e w2 ⟨T1, y1, rfl, hst, b2⟩
      have HS : Hid (S0 w2 N (threeP N (some A) (some B) C) (.iface T1 y1)) := hst
      have HB2 : Hid (Below w.heap.size w w2) := (HB.out.alloc HB.out.size _).trans (b2.mono (HB.out.alloc HB.out.size _).size)
      clear hst b2
      go_wp2_with fail
      go_ret2
      exact ⟨HB2.out, Or.inr ⟨A, B, C, T1, y1, HR.out, rfl, HS.out⟩⟩
/-- what Merge answers -/
def mergeA (N : Nat) (x y z : Bs) : Array Value :=
  match rd3 N x y z with
  | .error e => #[.string ByteArray.empty, .int .i64 e]
  | .ok p => toldE N (threeP N (some p.1) (some p.2.1) p.2.2)
theorem three_fine {N : Nat} (hN2 : N ≤ 1000) {A B C : J N} (tB : Told20 N B) (tC : Told20 N C) : Fine N (threeP N (some A) (some B) C) := by
  have hw := three_wgt N (some A) (some B) C
  have h1 := wgt_most N B
  have h2 := wgt_most N C
  have h3 := wgt_len N (threeP N (some A) (some B) C)
  have hb : wO (wgt N) (some B) = wgt N B := rfl
  have b1 := tB.len
  have b2 := tB.nodes
  have c1 := tC.len
  have c2 := tC.nodes
  have hg := three_good N (some A) (some B) C tC.good (fun y e => by cases e; exact tB.good)
  exact ⟨fit_of_good _ _ hg, by omega, Nat.le_trans (depth_bound N _) (by omega), by omega⟩
def SaysT (w : World) (f : Nat) (args : Array Value) (v : Value) : Prop := ∀ w1, Below w.heap.size w w1 → Calls Tryz.prog f args w1 fun e w' => e = .returned v ∧ Below w1.heap.size w1 w'
theorem rd3_told {N : Nat} (hN : 20 ≤ N) {x y z : Bs} {A B C : J N} (h : rd3 N x y z = .ok (A, B, C)) : rd20 N x = .ok A ∧ rd20 N y = .ok B ∧ rd20 N z = .ok C := by
  unfold rd3 at h
  cases h1 : rd20 N x with
  | error e => rw [h1] at h; cases h
  | ok a =>
    rw [h1] at h
    cases h2 : rd20 N y with
    | error e => simp only [h2] at h; cases h
    | ok b =>
      simp only [h2] at h
      cases h3 : rd20 N z with
      | error e => simp only [h3] at h; cases h
      | ok c =>
        simp only [h3] at h
        cases h
        exact ⟨rfl, rfl, rfl⟩
set_option maxRecDepth 100000 in
set_option maxHeartbeats 2000000 in
theorem merge_says {N : Nat} (hN : 20 ≤ N) (hN2 : N ≤ 1000) {a b c : ByteArray} {w : World} {r : Array Value} (hT : Tab w.heap.size w) (ha : a.size ≤ maxLen) (hb : b.size ≤ maxLen) (hc : c.size ≤ maxLen) (hr : mergeA N a.data.toList b.data.toList c.data.toList = r) :
    SaysT w 13 #[.string a, .string b, .string c] (.tuple r) := by
  intro w1 hb1
  have HC : Hid (Calls Tryz.prog 27 #[.string a, .string b, .string c, .func (.func 28) #[] #[]] w1 (InPost N (rd3 N a.data.toList b.data.toList c.data.toList) w1)) := inner_any N hN hN2 a b c _ w1 ha hb hc (Or.inl rfl)
  have HT : Hid (Tab w1.heap.size w1) := hT.on hb1
  have HNN : Hid (20 ≤ N ∧ N ≤ 1000) := ⟨hN, hN2⟩
  have HRr : Hid (mergeA N a.data.toList b.data.toList c.data.toList = r) := hr
  clear hr hT hb1 hN hN2
  go_enter Tryz.func13, Tryz.ntmps13
  go_wp2_with fail
  refine Calls.mono HC.out ?_
  rintro e w2 ⟨b2, h2⟩
  have HB2 : Hid (Below w1.heap.size w1 w2) := b2
  clear b2
  rcases h2 with ⟨er, hr, her, her2, rfl⟩ | ⟨A, B, C, T, y, hr, rfl, hst⟩
  · have HE : Hid (r = #[.string ByteArray.empty, .int .i64 er]) := by show _ = _; rw [← HRr.out, mergeA, hr]
    have hbe : ((er : Int) != 0) = true := by rw [bne_iff_ne]; omega
    clear hr
    go_wp2_with fail
    go_ret2
    exact ⟨by rw [HE.out]; rfl, HB2.out⟩
  · obtain ⟨r1, r2, r3⟩ := rd3_told HNN.out.1 hr
    have hE : toldE N (threeP N (some A) (some B) C) = r := by rw [← HRr.out, mergeA, hr]
    obtain ⟨s, er, hs⟩ := toldE_form N (threeP N (some A) (some B) C)
    have HTl : Hid (Calls Tryz.prog 22 #[.iface T y] w2 fun e w' => e = .returned (.tuple #[.string s, .int .i64 er]) ∧ Below w2.heap.size w2 w') := by
      have h9 := tellJ_any N _ _ w2 hst (three_fine HNN.out.2 (rd20_told HNN.out.1 r2) (rd20_told HNN.out.1 r3)) (HT.out.on HB2.out)
      rw [hs] at h9
      exact h9
    have HE : Hid (r = #[.string s, .int .i64 er]) := by show _ = _; rw [← hE, hs]
    clear hr hst hE hs r1 r2 r3
    go_wp2_with fail
    refine Calls.mono HTl.out ?_
    rintro e w3 ⟨rfl, b3⟩
    have HB3 : Hid (Below w1.heap.size w1 w3) := HB2.out.trans (b3.mono HB2.out.size)
    clear b3
    go_wp2_with fail
    go_ret2
    exact ⟨by rw [HE.out]; rfl, HB3.out⟩
def errA {α : Type} (r : Except Nat α) : Nat :=
  match r with
  | .error e => e
  | .ok _ => 0
set_option maxRecDepth 100000 in
set_option maxHeartbeats 2000000 in
theorem lost_says {N : Nat} (hN : 20 ≤ N) (hN2 : N ≤ 1000) {a b c : ByteArray} {w : World} {er : Nat} (ha : a.size ≤ maxLen) (hb : b.size ≤ maxLen) (hc : c.size ≤ maxLen) (hr : errA (rd3 N a.data.toList b.data.toList c.data.toList) = er) (hno : ∀ A B C, rd3 N a.data.toList b.data.toList c.data.toList = .ok (A, B, C) → noLoss N (some A) (some B) C) :
    SaysT w 14 #[.string a, .string b, .string c] (.tuple #[.slice none 0 0, .int .i64 er]) := by
  intro w1 hb1
  have HC : Hid (∀ gv w2, Calls Tryz.prog 27 #[.string a, .string b, .string c, gv] w2 (InPost N (rd3 N a.data.toList b.data.toList c.data.toList) w2)) := fun gv w2 => inner_any N hN hN2 a b c gv w2 ha hb hc (Or.inr hno)
  have HRr : Hid (errA (rd3 N a.data.toList b.data.toList c.data.toList) = er) := hr
  have HX : Hid ((w1.alloc (.cells #[.slice none 0 0] 34)).heap[w1.heap.size]? = some (.cells #[.slice none 0 0] 34 (0, 0))) := heap_alloc_new w1 _
  have HB0 : Hid (Below w1.heap.size w1 (w1.alloc (.cells #[.slice none 0 0] 34))) := (Below.refl _ _).alloc (Nat.le_refl _) _
  clear hr hb1 hno hN hN2
  go_enter Tryz.func14, Tryz.ntmps14
  go_wp2_with fail
  generalize w1.alloc (.cells #[.slice none 0 0] 34) = w0 at *
  refine Calls.mono (HC.out _ w0) ?_
  rintro e w2 ⟨b2, h2⟩
  have HB2 : Hid (Below w1.heap.size w1 w2) := HB0.out.trans (b2.mono HB0.out.size)
  have hX2 : w2.heap[w1.heap.size]? = some (.cells #[.slice none 0 0] 34 (0, 0)) := (b2.block _ (lt_of_block HX.out)).trans HX.out
  have x0 : w2.cell? ⟨w1.heap.size, 0, none⟩ = some (.slice none 0 0) := by rw [cell_of_row _ _ _ _ _ _ hX2]; rfl
  clear b2 hX2
  rcases h2 with ⟨er', hr, her, her2, rfl⟩ | ⟨A, B, C, T, y, hr, rfl, hst⟩
  · have HE : Hid (er = er') := by show _ = _; rw [← HRr.out, hr]; rfl
    have hbe : ((er' : Int) != 0) = true := by rw [bne_iff_ne]; omega
    clear hr
    go_wp2_with fail
    go_ret2
    exact ⟨by rw [HE.out]; rfl, HB2.out⟩
  · have HE : Hid (er = 0) := by show _ = _; rw [← HRr.out, hr]; rfl
    clear hr hst
    go_wp2_with fail
    refine (Tryz.slices_Sort_string_none none 0 w2).mono ?_
    rintro e w3 ⟨rfl, h3⟩
    have h3' := h3.symm
    subst h3'
    go_wp2_with fail
    go_ret2
    exact ⟨by rw [HE.out]; rfl, HB2.out⟩
end Go.Proofs.YtaogilpkeeigoabGreatDoor
/- The table of powers of ten out of what is laid; the laws' own canon at every text. -/
namespace Go.Proofs.YtaogilpkeeigoabGreatDoor
open Go.RowKit
set_option linter.unusedVariables false
set_option linter.unusedSimpArgs false
/-- the table stands third on the list -/
theorem tabIs_of_third {P : Program} {W : World} {name : String} {k : IntKind} {zs : List Int} {x y : String × DataW Unit} {rest : List (String × DataW Unit)} {g : Nat} {t e : TypeId} {n : Nat}
    (hg : P.globalNamed name = some g) (hty : (P.globals[g]?).map (·.type) = some t) (ht : P.underlying t = some (.array n e)) (he : P.underlying e = some (.int k)) (hce : P.cellsOf e = 1) (hct : P.cellsOf t = n)
    (h : laidMet P (x :: y :: (name, Lib.tabData k zs) :: rest) W) : Lib.TabIs P W name k zs := by
  obtain ⟨ps, ⟨_, _, _, _, _, _, _, _, _, _, ⟨_, _, _, _, _, _, _, _, _, _, ⟨g', t', cs, fuel, p, q, hg', ht', hvar, hd, _, _⟩, _⟩, _⟩, _⟩ := h
  obtain rfl := Option.some.inj (hg.symm.trans hg')
  obtain rfl := Option.some.inj (hty.symm.trans ht')
  unfold Lib.TabIs
  rw [hvar, ← Lib.cells_of_tab ht he hce hct hd]
theorem tab_of_laid {x y : String × DataW Unit} {rest : List (String × DataW Unit)} {W : World} (hn : ((x :: y :: ("internal/strconv.uint64pow10", Lib.tabData .u64 Lib.pow10Tab) :: rest).all fun x => x.2.handleName?.isNone) = true)
    (h : laidMetH Tryz.prog (x :: y :: ("internal/strconv.uint64pow10", Lib.tabData .u64 Lib.pow10Tab) :: rest) W) : Tab W.heap.size W := by
  rw [Go.MakeChecks.laidMetH_plain _ _ _ hn] at h
  exact Lib.tabBelow_of_tabIs (tabIs_of_third (P := Tryz.prog) (g := 5) (t := 207) (e := 128) (n := 20) (by kernel_rfl) (by kernel_rfl) Tryz.underlying207 Tryz.underlying128 (by kernel_rfl) (by kernel_rfl) h)
theorem keepCanon_any (t : ByteArray) (w : World) (hs : t.size ≤ maxLen) (hT : Tab w.heap.size w) :
    Calls Tryz.prog 12 #[.string t] w fun e w' => (match read t.data.toList with
      | .error _ => e = .returned (.tuple #[.string ByteArray.empty, .bool false])
      | .ok j => e = .returned (.tuple #[.string ⟨(tell 10 j).toArray⟩, .bool true])) ∧ Below w.heap.size w w' := by
  have hC := canon_any t w hs hT
  cases hr : read t.data.toList with
  | error er =>
    have HC : Hid (Calls Tryz.prog 15 #[.string t] w fun e w' => e = .returned (.tuple #[.string ByteArray.empty, .int .i64 er]) ∧ Below w.heap.size w w') := by
      refine hC.mono ?_
      rintro e w1 ⟨rfl, b1⟩
      exact ⟨by rw [canonE, hr], b1⟩
    have her : er ≠ 0 := read_err hr
    have hbe : ((er : Int) == 0) = false := by rw [beq_eq_false_iff_ne]; omega
    clear hC hr hT
    go_enter Tryz.func12, Tryz.ntmps12
    go_wp2_with fail
    refine Calls.mono HC.out ?_
    rintro e w1 ⟨rfl, b1⟩
    have HB1 : Hid (Below w.heap.size w w1) := b1
    clear b1
    go_wp2_with fail
    go_ret2
    exact ⟨rfl, HB1.out⟩
  | ok j =>
    have HC : Hid (Calls Tryz.prog 15 #[.string t] w fun e w' => e = .returned (.tuple #[.string ⟨(tell 10 j).toArray⟩, .int .i64 0]) ∧ Below w.heap.size w w') := by
      refine hC.mono ?_
      rintro e w1 ⟨rfl, b1⟩
      exact ⟨by rw [canonE, hr], b1⟩
    clear hC hr hT
    simp only []
    generalize (⟨(tell 10 j).toArray⟩ : ByteArray) = tx at *
    go_enter Tryz.func12, Tryz.ntmps12
    go_wp2_with fail
    refine Calls.mono HC.out ?_
    rintro e w1 ⟨rfl, b1⟩
    have HB1 : Hid (Below w.heap.size w w1) := b1
    clear b1
    go_wp2_with fail
    go_ret2
    exact ⟨rfl, HB1.out⟩
end Go.Proofs.YtaogilpkeeigoabGreatDoor
/- Contracts over this translation of the calls of package json, at texts of which it is known what they are read as. -/
namespace Go.Proofs.YtaogilpkeeigoabGreatDoor
open Go.RowKit
set_option linter.unusedVariables false
set_option linter.unusedSimpArgs false
theorem ba_of {a : ByteArray} {x : Bs} (h : a.data.toList = x) : (⟨x.toArray⟩ : ByteArray) = a := by
  subst h
  cases a
  simp
/-- one call, from whatever was made since, answers this -/
def Says (w : World) (f : Nat) (args : Array Value) (v : Value) : Prop := ∀ w1, Below w.heap.size w w1 → Calls Tryz.prog f args w1 fun e w' => e = .returned v ∧ Below w1.heap.size w1 w'
theorem Says.mono {w : World} {f : Nat} {args : Array Value} {v u : Value} (h : Says w f args v) (e : v = u) : Says w f args u := e ▸ h
theorem canon_ok {t u : ByteArray} {x : Bs} {j : J 10} {w : World} (hT : Tab w.heap.size w) (hs : t.size ≤ maxLen) (hx : t.data.toList = x) (hr : read x = .ok j) (hu : u.data.toList = tell 10 j) :
    Says w 15 #[.string t] (.tuple #[.string u, .int .i64 0]) := by
  intro w1 hb
  have h := canon_any t w1 hs ((hT.below hb).mono hb.size)
  rw [hx] at h
  refine h.mono ?_
  rintro e w2 ⟨rfl, b2⟩
  refine ⟨?_, b2⟩
  rw [canonE, hr]
  simp only []
  rw [ba_of hu]
theorem canon_err {t : ByteArray} {x : Bs} {er : Nat} {w : World} (hT : Tab w.heap.size w) (hs : t.size ≤ maxLen) (hx : t.data.toList = x) (hr : read x = .error er) :
    Says w 15 #[.string t] (.tuple #[.string ByteArray.empty, .int .i64 er]) := by
  intro w1 hb
  have h := canon_any t w1 hs ((hT.below hb).mono hb.size)
  rw [hx] at h
  refine h.mono ?_
  rintro e w2 ⟨rfl, b2⟩
  refine ⟨?_, b2⟩
  rw [canonE, hr]
theorem keep_ok {t u : ByteArray} {x : Bs} {j : J 10} {w : World} (hT : Tab w.heap.size w) (hs : t.size ≤ maxLen) (hx : t.data.toList = x) (hr : read x = .ok j) (hu : u.data.toList = tell 10 j) :
    Says w 12 #[.string t] (.tuple #[.string u, .bool true]) := by
  intro w1 hb
  have h := keepCanon_any t w1 hs ((hT.below hb).mono hb.size)
  rw [hx, hr] at h
  simp only [] at h
  rw [ba_of hu] at h
  exact h
theorem keep_err {t : ByteArray} {x : Bs} {er : Nat} {w : World} (hT : Tab w.heap.size w) (hs : t.size ≤ maxLen) (hx : t.data.toList = x) (hr : read x = .error er) :
    Says w 12 #[.string t] (.tuple #[.string ByteArray.empty, .bool false]) := by
  intro w1 hb
  have h := keepCanon_any t w1 hs ((hT.below hb).mono hb.size)
  rw [hx, hr] at h
  exact h
end Go.Proofs.YtaogilpkeeigoabGreatDoor
/- Facts on what Merge answers; what the laws ThreeAgain and ThreeAlone lean on. -/
namespace Go.Proofs.YtaogilpkeeigoabGreatDoor
open Go.RowKit
set_option linter.unusedVariables false
set_option linter.unusedSimpArgs false
theorem rd20_nz {N : Nat} {s : Bs} {e : Nat} (h : rd20 N s = .error e) : e ≠ 0 := by
  unfold rd20 at h
  cases hr : read s with
  | error e' =>
    rw [hr] at h
    have h' : (Except.error e' : Except Nat (J N)) = .error e := h
    cases h'
    exact read_err hr
  | ok j =>
    rw [hr] at h
    have h' : (Except.ok (lift 10 N j) : Except Nat (J N)) = .error e := h
    cases h'
theorem rd3_nz {N : Nat} {x y z : Bs} {e : Nat} (h : rd3 N x y z = .error e) : e ≠ 0 := by
  unfold rd3 at h
  cases h1 : rd20 N x with
  | error e1 => rw [h1] at h; cases h; exact rd20_nz h1
  | ok a =>
    rw [h1] at h
    cases h2 : rd20 N y with
    | error e1 => simp only [h2] at h; cases h; exact rd20_nz h2
    | ok b =>
      simp only [h2] at h
      cases h3 : rd20 N z with
      | error e1 => simp only [h3] at h; cases h; exact rd20_nz h3
      | ok c => simp only [h3] at h; cases h
theorem merge_cases {N : Nat} (hN : 20 ≤ N) (x y z : Bs) : (∃ er : Nat, er ≠ 0 ∧ mergeA N x y z = #[.string ByteArray.empty, .int .i64 er]) ∨
    ∃ A B C, rd20 N x = .ok A ∧ rd20 N y = .ok B ∧ rd20 N z = .ok C ∧ Told20 N (threeP N (some A) (some B) C) ∧ mergeA N x y z = #[.string ⟨(tell N (threeP N (some A) (some B) C)).toArray⟩, .int .i64 0] := by
  cases h : rd3 N x y z with
  | error e => exact Or.inl ⟨e, rd3_nz h, by rw [mergeA, h]⟩
  | ok p =>
    obtain ⟨A, B, C⟩ := p
    obtain ⟨h1, h2, h3⟩ := rd3_told hN h
    have hm : mergeA N x y z = toldE N (threeP N (some A) (some B) C) := by rw [mergeA, h]
    have hg := three_good N (some A) (some B) C (rd20_told hN h3).good (fun y e => by cases e; exact (rd20_told hN h2).good)
    unfold toldE at hm
    by_cases c1 : 10 < depth N (threeP N (some A) (some B) C)
    · exact Or.inl ⟨4, by decide, by rw [hm, if_pos c1]; rfl⟩
    · rw [if_neg c1] at hm
      by_cases c2 : 200 < nodes N (threeP N (some A) (some B) C)
      · exact Or.inl ⟨2, by decide, by rw [hm, if_pos c2]; rfl⟩
      · rw [if_neg c2] at hm
        by_cases c3 : 2000 < (tell N (threeP N (some A) (some B) C)).length
        · exact Or.inl ⟨2, by decide, by rw [hm, if_pos c3]; rfl⟩
        · rw [if_neg c3] at hm
          exact Or.inr ⟨A, B, C, h1, h2, h3, ⟨hg, by omega, by omega, by omega⟩, hm⟩
theorem tread_1 : read [49] = .ok (Sum.inl (some (Sum.inr (Sum.inl 1)))) := by rfl
theorem tread_2 : read [50] = .ok (Sum.inl (some (Sum.inr (Sum.inl 2)))) := by rfl
theorem tread_3 : read [51] = .ok (Sum.inl (some (Sum.inr (Sum.inl 3)))) := by rfl
theorem tread_o : read [123, 125] = .ok (Sum.inr (Sum.inr [])) := by rfl
theorem merge_123 {N : Nat} (hN : 20 ≤ N) : mergeA N [49] [50] [51] = #[.string ⟨#[51]⟩, .int .i64 0] := by
  obtain ⟨n, rfl⟩ : ∃ n, N = n + 1 := ⟨N - 1, by omega⟩
  have h3 : rd3 (n + 1) [49] [50] [51] = .ok (lift 10 (n + 1) (Sum.inl (some (Sum.inr (Sum.inl 1)))), lift 10 (n + 1) (Sum.inl (some (Sum.inr (Sum.inl 2)))), lift 10 (n + 1) (Sum.inl (some (Sum.inr (Sum.inl 3))))) := rd3_4 (rd20_ok tread_1) (rd20_ok tread_2) (rd20_ok tread_3)
  rw [mergeA, h3]
  show toldE (n + 1) (Sum.inl (some (Sum.inr (Sum.inl 3)))) = _
  have h : tell (n + 1) (Sum.inl (some (Sum.inr (Sum.inl 3)))) = [51] := by
    show Lib.itoa 3 = [51]
    decide +kernel
  have h1 : depth (n + 1) (Sum.inl (some (Sum.inr (Sum.inl 3)))) = 0 := rfl
  have h2 : nodes (n + 1) (Sum.inl (some (Sum.inr (Sum.inl 3)))) = 1 := rfl
  unfold toldE
  rw [h, h1, h2]
  rfl
theorem tfew (l : Bs) (h : l.length ≤ 100) : (⟨l.toArray⟩ : ByteArray).size ≤ maxLen := by
  rw [size_of]
  unfold maxLen
  omega
theorem told_smallT {N : Nat} {j : J N} (h : Told20 N j) : (⟨(tell N j).toArray⟩ : ByteArray).size ≤ maxLen := by
  rw [size_of]
  have := h.len
  unfold maxLen
  omega
theorem rd20_of {N : Nat} {s : Bs} {D : J N} (h : rd20 N s = .ok D) : ∃ j, read s = .ok j ∧ D = lift 10 N j := by
  unfold rd20 at h
  cases hr : read s with
  | error e =>
    rw [hr] at h
    have h' : (Except.error e : Except Nat (J N)) = .ok D := h
    cases h'
  | ok j =>
    rw [hr] at h
    have h' : (Except.ok (lift 10 N j) : Except Nat (J N)) = .ok D := h
    cases h'
    exact ⟨j, rfl, rfl⟩
theorem tell_lift {N : Nat} (hN : 20 ≤ N) (j : J 10) : tell N (lift 10 N j) = tell 10 j := (lift_said 10 N j (Nat.le_trans (depth_bound 10 j) (by omega))).1
end Go.Proofs.YtaogilpkeeigoabGreatDoor
/- The law ThreeAgain over this translation: it answers true at every three texts, and leaves old memory alone. -/
namespace Go.Proofs.YtaogilpkeeigoabGreatDoor
open Go.RowKit
set_option linter.unusedVariables false
set_option linter.unusedSimpArgs false
set_option maxRecDepth 100000 in
set_option maxHeartbeats 4000000 in
theorem tagain_walk (N : Nat) (hN : 20 ≤ N) (hN2 : N ≤ 1000) (a b c : ByteArray) (w : World) (ha : a.size ≤ maxLen) (hb : b.size ≤ maxLen) (hc : c.size ≤ maxLen) (hT : Tab w.heap.size w) :
    Calls Tryz.prog 4 #[.string a, .string b, .string c] w fun e w' => e = .returned (.bool true) ∧ Below w.heap.size w w' := by
  have H1 : Hid (SaysT w 13 #[.string ⟨#[49]⟩, .string ⟨#[50]⟩, .string ⟨#[51]⟩] (.tuple #[.string ⟨#[51]⟩, .int .i64 0])) := merge_says hN hN2 hT (tfew [49] (by decide)) (tfew [50] (by decide)) (tfew [51] (by decide)) (merge_123 hN)
  rcases merge_cases hN a.data.toList b.data.toList c.data.toList with ⟨er, her, h⟩ | ⟨A, B, C, rA, rB, rC, tj, h⟩
  · have HA : Hid (SaysT w 13 #[.string a, .string b, .string c] (.tuple #[.string ByteArray.empty, .int .i64 er])) := merge_says hN hN2 hT ha hb hc h
    have hbe : ((er : Int) != 0) = true := by rw [bne_iff_ne]; omega
    clear hT h
    go_enter Tryz.func4, Tryz.ntmps4
    go_wp2_with fail
    refine Calls.mono (HA.out w (Below.refl _ _)) ?_
    rintro e w1 ⟨rfl, b1⟩
    have HB1 : Hid (Below w.heap.size w w1) := b1
    clear b1
    go_wp2_with fail
    refine Calls.mono (H1.out w1 HB1.out) ?_
    rintro e w2 ⟨rfl, b2⟩
    have HB2 : Hid (Below w.heap.size w w2) := HB1.out.trans (b2.mono HB1.out.size)
    clear b2
    go_wp2_with fail
    go_ret
    exact ⟨by simp, HB2.out⟩
  · have HA : Hid (SaysT w 13 #[.string a, .string b, .string c] (.tuple #[.string ⟨(tell N (threeP N (some A) (some B) C)).toArray⟩, .int .i64 0])) := merge_says hN hN2 hT ha hb hc h
    have h3 : rd3 N c.data.toList (⟨(tell N (threeP N (some A) (some B) C)).toArray⟩ : ByteArray).data.toList c.data.toList = .ok (C, threeP N (some A) (some B) C, C) := rd3_4 rC (tj.again hN) rC
    have hag : mergeA N c.data.toList (⟨(tell N (threeP N (some A) (some B) C)).toArray⟩ : ByteArray).data.toList c.data.toList = #[.string ⟨(tell N (threeP N (some A) (some B) C)).toArray⟩, .int .i64 0] := by
      rw [mergeA, h3]
      show toldE N (threeP N (some C) (some (threeP N (some A) (some B) C)) C) = _
      rw [three_again]
      exact tj.told
    have HU : Hid (SaysT w 13 #[.string c, .string ⟨(tell N (threeP N (some A) (some B) C)).toArray⟩, .string c] (.tuple #[.string ⟨(tell N (threeP N (some A) (some B) C)).toArray⟩, .int .i64 0])) := merge_says hN hN2 hT hc (told_smallT tj) hc hag
    have HL : Hid (SaysT w 14 #[.string c, .string ⟨(tell N (threeP N (some A) (some B) C)).toArray⟩, .string c] (.tuple #[.slice none 0 0, .int .i64 ((0 : Nat) : Int)])) := lost_says hN hN2 hc (told_smallT tj) hc (by rw [h3]; rfl) (fun A' B' C' e => by
      rw [h3] at e
      cases e
      exact noLoss_same N _ _)
    clear hT h h3 hag rA rB rC tj
    generalize (⟨(tell N (threeP N (some A) (some B) C)).toArray⟩ : ByteArray) = t at *
    go_enter Tryz.func4, Tryz.ntmps4
    go_wp2_with fail
    refine Calls.mono (HA.out w (Below.refl _ _)) ?_
    rintro e w1 ⟨rfl, b1⟩
    have HB1 : Hid (Below w.heap.size w w1) := b1
    clear b1
    go_wp2_with fail
    refine Calls.mono (H1.out w1 HB1.out) ?_
    rintro e w2 ⟨rfl, b2⟩
    have HB2 : Hid (Below w.heap.size w w2) := HB1.out.trans (b2.mono HB1.out.size)
    clear b2
    go_wp2_with fail
    refine Calls.mono (HU.out w2 HB2.out) ?_
    rintro e w3 ⟨rfl, b3⟩
    have HB3 : Hid (Below w.heap.size w w3) := HB2.out.trans (b3.mono HB2.out.size)
    clear b3
    go_wp2_with fail
    refine Calls.mono (HL.out w3 HB3.out) ?_
    rintro e w4 ⟨rfl, b4⟩
    have HB4 : Hid (Below w.heap.size w w4) := HB3.out.trans (b4.mono HB3.out.size)
    clear b4
    go_wp2_with fail
    go_ret
    exact ⟨by simp, HB4.out⟩
end Go.Proofs.YtaogilpkeeigoabGreatDoor
/- The law ThreeAlone over this translation: it answers true at every three texts, and leaves old memory alone. -/
namespace Go.Proofs.YtaogilpkeeigoabGreatDoor
open Go.RowKit
set_option linter.unusedVariables false
set_option linter.unusedSimpArgs false
set_option maxRecDepth 100000 in
set_option maxHeartbeats 4000000 in
theorem talone_walk (N : Nat) (hN : 20 ≤ N) (hN2 : N ≤ 1000) (a b c : ByteArray) (w : World) (ha : a.size ≤ maxLen) (hb : b.size ≤ maxLen) (hc : c.size ≤ maxLen) (hT : Tab w.heap.size w) :
    Calls Tryz.prog 5 #[.string a, .string b, .string c] w fun e w' => e = .returned (.bool true) ∧ Below w.heap.size w w' := by
  have H1 : Hid (SaysT w 13 #[.string ⟨#[49]⟩, .string ⟨#[50]⟩, .string ⟨#[51]⟩] (.tuple #[.string ⟨#[51]⟩, .int .i64 0])) := merge_says hN hN2 hT (tfew [49] (by decide)) (tfew [50] (by decide)) (tfew [51] (by decide)) (merge_123 hN)
  cases hc' : read c.data.toList with
  | error ec =>
    have HC : Hid (Says w 12 #[.string c] (.tuple #[.string ByteArray.empty, .bool false])) := keep_err hT hc rfl hc'
    obtain ⟨em, hem, hm⟩ : ∃ em : Nat, em ≠ 0 ∧ mergeA N a.data.toList a.data.toList c.data.toList = #[.string ByteArray.empty, .int .i64 em] := by
      rcases merge_cases hN a.data.toList a.data.toList c.data.toList with h | ⟨A, B, C, rA, rB, rC, tj, h⟩
      · exact h
      · obtain ⟨j, hj, _⟩ := rd20_of rC
        rw [hc'] at hj
        cases hj
    have HA : Hid (SaysT w 13 #[.string a, .string a, .string c] (.tuple #[.string ByteArray.empty, .int .i64 em])) := merge_says hN hN2 hT ha ha hc hm
    have hbe : ((em : Int) != 0) = true := by rw [bne_iff_ne]; omega
    clear hT hm hc'
    go_enter Tryz.func5, Tryz.ntmps5
    go_wp2_with fail
    refine Calls.mono (HC.out w (Below.refl _ _)) ?_
    rintro e w1 ⟨rfl, b1⟩
    have HB1 : Hid (Below w.heap.size w w1) := b1
    clear b1
    go_wp2_with fail
    refine Calls.mono (HA.out w1 HB1.out) ?_
    rintro e w2 ⟨rfl, b2⟩
    have HB2 : Hid (Below w.heap.size w w2) := HB1.out.trans (b2.mono HB1.out.size)
    clear b2
    go_wp2_with fail
    refine Calls.mono (H1.out w2 HB2.out) ?_
    rintro e w3 ⟨rfl, b3⟩
    have HB3 : Hid (Below w.heap.size w w3) := HB2.out.trans (b3.mono HB2.out.size)
    clear b3
    go_wp2_with fail
    go_ret
    exact ⟨by simp, HB3.out⟩
  | ok jc =>
    have rC : rd20 N c.data.toList = .ok (lift 10 N jc) := rd20_ok hc'
    have tC := rd20_told hN rC
    have hud : (⟨(tell N (lift 10 N jc)).toArray⟩ : ByteArray).data.toList = tell 10 jc := by rw [← tell_lift hN jc]
    have HC : Hid (Says w 12 #[.string c] (.tuple #[.string ⟨(tell N (lift 10 N jc)).toArray⟩, .bool true])) := keep_ok hT hc rfl hc' hud
    cases ha' : read a.data.toList with
    | error ea =>
      have hm : mergeA N a.data.toList a.data.toList c.data.toList = #[.string ByteArray.empty, .int .i64 ea] := by rw [mergeA, rd3_1 (rd20_err ha')]
      have HA : Hid (SaysT w 13 #[.string a, .string a, .string c] (.tuple #[.string ByteArray.empty, .int .i64 ea])) := merge_says hN hN2 hT ha ha hc hm
      have HK : Hid (Says w 15 #[.string a] (.tuple #[.string ByteArray.empty, .int .i64 ea])) := canon_err hT ha rfl ha'
      have hnz := read_err ha'
      have hbe : ((ea : Int) != 0) = true := by rw [bne_iff_ne]; omega
      clear hT hm ha' hc' rC tC hud hnz
      generalize (⟨(tell N (lift 10 N jc)).toArray⟩ : ByteArray) = t at *
      go_enter Tryz.func5, Tryz.ntmps5
      go_wp2_with fail
      refine Calls.mono (HC.out w (Below.refl _ _)) ?_
      rintro e w1 ⟨rfl, b1⟩
      have HB1 : Hid (Below w.heap.size w w1) := b1
      clear b1
      go_wp2_with fail
      refine Calls.mono (HA.out w1 HB1.out) ?_
      rintro e w2 ⟨rfl, b2⟩
      have HB2 : Hid (Below w.heap.size w w2) := HB1.out.trans (b2.mono HB1.out.size)
      clear b2
      go_wp2_with fail
      refine Calls.mono (H1.out w2 HB2.out) ?_
      rintro e w3 ⟨rfl, b3⟩
      have HB3 : Hid (Below w.heap.size w w3) := HB2.out.trans (b3.mono HB2.out.size)
      clear b3
      go_wp2_with fail
      refine Calls.mono (HK.out w3 HB3.out) ?_
      rintro e w4 ⟨rfl, b4⟩
      have HB4 : Hid (Below w.heap.size w w4) := HB3.out.trans (b4.mono HB3.out.size)
      clear b4
      go_wp2_with fail
      go_ret
      exact ⟨by simp, HB4.out⟩
    | ok ja =>
      have rA : rd20 N a.data.toList = .ok (lift 10 N ja) := rd20_ok ha'
      have hm : mergeA N a.data.toList a.data.toList c.data.toList = #[.string ⟨(tell N (lift 10 N jc)).toArray⟩, .int .i64 0] := by
        rw [mergeA, rd3_4 rA rA rC]
        show toldE N (threeP N (some (lift 10 N ja)) (some (lift 10 N ja)) (lift 10 N jc)) = _
        rw [three_alone N _ _ tC.good]
        exact tC.told
      have HA : Hid (SaysT w 13 #[.string a, .string a, .string c] (.tuple #[.string ⟨(tell N (lift 10 N jc)).toArray⟩, .int .i64 0])) := merge_says hN hN2 hT ha ha hc hm
      have HK : Hid (Says w 15 #[.string a] (.tuple #[.string ⟨(tell 10 ja).toArray⟩, .int .i64 0])) := canon_ok hT ha rfl ha' (by simp)
      have ro : rd20 N [123, 125] = .ok (lift 10 N (Sum.inr (Sum.inr []))) := rd20_ok tread_o
      have hno : ∀ A B C, rd3 N (⟨#[123, 125]⟩ : ByteArray).data.toList b.data.toList c.data.toList = .ok (A, B, C) → noLoss N (some A) (some B) C := fun A B C e => by
        obtain ⟨h1, _, _⟩ := rd3_told hN e
        have h1' : rd20 N [123, 125] = .ok A := h1
        rw [ro] at h1'
        cases h1'
        obtain ⟨n, rfl⟩ : ∃ n, N = n + 1 := ⟨N - 1, by omega⟩
        exact noLoss_empty n _ _
      cases hb' : read b.data.toList with
      | error eb =>
        have HL : Hid (SaysT w 14 #[.string ⟨#[123, 125]⟩, .string b, .string c] (.tuple #[.slice none 0 0, .int .i64 eb])) := lost_says hN hN2 (tfew [123, 125] (by decide)) hb hc (by rw [rd3_2 (x := (⟨#[123, 125]⟩ : ByteArray).data.toList) ro (rd20_err hb')]; rfl) hno
        have HM : Hid (Says w 15 #[.string b] (.tuple #[.string ByteArray.empty, .int .i64 eb])) := canon_err hT hb rfl hb'
        clear hT hm ha' hc' rC tC hud hno ro rA hb'
        generalize (⟨(tell N (lift 10 N jc)).toArray⟩ : ByteArray) = t at *
        generalize (⟨(tell 10 ja).toArray⟩ : ByteArray) = t2 at *
        go_enter Tryz.func5, Tryz.ntmps5
        go_wp2_with fail
        refine Calls.mono (HC.out w (Below.refl _ _)) ?_
        rintro e w1 ⟨rfl, b1⟩
        have HB1 : Hid (Below w.heap.size w w1) := b1
        clear b1
        go_wp2_with fail
        refine Calls.mono (HA.out w1 HB1.out) ?_
        rintro e w2 ⟨rfl, b2⟩
        have HB2 : Hid (Below w.heap.size w w2) := HB1.out.trans (b2.mono HB1.out.size)
        clear b2
        go_wp2_with fail
        refine Calls.mono (H1.out w2 HB2.out) ?_
        rintro e w3 ⟨rfl, b3⟩
        have HB3 : Hid (Below w.heap.size w w3) := HB2.out.trans (b3.mono HB2.out.size)
        clear b3
        go_wp2_with fail
        refine Calls.mono (HK.out w3 HB3.out) ?_
        rintro e w4 ⟨rfl, b4⟩
        have HB4 : Hid (Below w.heap.size w w4) := HB3.out.trans (b4.mono HB3.out.size)
        clear b4
        go_wp2_with fail
        refine Calls.mono (HL.out w4 HB4.out) ?_
        rintro e w5 ⟨rfl, b5⟩
        have HB5 : Hid (Below w.heap.size w w5) := HB4.out.trans (b5.mono HB4.out.size)
        clear b5
        go_wp2_with fail
        refine Calls.mono (HM.out w5 HB5.out) ?_
        rintro e w6 ⟨rfl, b6⟩
        have HB6 : Hid (Below w.heap.size w w6) := HB5.out.trans (b6.mono HB5.out.size)
        clear b6
        go_wp2_with fail
        go_ret
        exact ⟨by simp, HB6.out⟩
      | ok jb =>
        have HL : Hid (SaysT w 14 #[.string ⟨#[123, 125]⟩, .string b, .string c] (.tuple #[.slice none 0 0, .int .i64 ((0 : Nat) : Int)])) := lost_says hN hN2 (tfew [123, 125] (by decide)) hb hc (by rw [rd3_4 (x := (⟨#[123, 125]⟩ : ByteArray).data.toList) ro (rd20_ok hb') rC]; rfl) hno
        have HM : Hid (Says w 15 #[.string b] (.tuple #[.string ⟨(tell 10 jb).toArray⟩, .int .i64 0])) := canon_ok hT hb rfl hb' (by simp)
        clear hT hm ha' hc' rC tC hud hno ro rA hb'
        generalize (⟨(tell N (lift 10 N jc)).toArray⟩ : ByteArray) = t at *
        generalize (⟨(tell 10 ja).toArray⟩ : ByteArray) = t2 at *
        generalize (⟨(tell 10 jb).toArray⟩ : ByteArray) = t3 at *
        go_enter Tryz.func5, Tryz.ntmps5
        go_wp2_with fail
        refine Calls.mono (HC.out w (Below.refl _ _)) ?_
        rintro e w1 ⟨rfl, b1⟩
        have HB1 : Hid (Below w.heap.size w w1) := b1
        clear b1
        go_wp2_with fail
        refine Calls.mono (HA.out w1 HB1.out) ?_
        rintro e w2 ⟨rfl, b2⟩
        have HB2 : Hid (Below w.heap.size w w2) := HB1.out.trans (b2.mono HB1.out.size)
        clear b2
        go_wp2_with fail
        refine Calls.mono (H1.out w2 HB2.out) ?_
        rintro e w3 ⟨rfl, b3⟩
        have HB3 : Hid (Below w.heap.size w w3) := HB2.out.trans (b3.mono HB2.out.size)
        clear b3
        go_wp2_with fail
        refine Calls.mono (HK.out w3 HB3.out) ?_
        rintro e w4 ⟨rfl, b4⟩
        have HB4 : Hid (Below w.heap.size w w4) := HB3.out.trans (b4.mono HB3.out.size)
        clear b4
        go_wp2_with fail
        refine Calls.mono (HL.out w4 HB4.out) ?_
        rintro e w5 ⟨rfl, b5⟩
        have HB5 : Hid (Below w.heap.size w w5) := HB4.out.trans (b5.mono HB4.out.size)
        clear b5
        go_wp2_with fail
        refine Calls.mono (HM.out w5 HB5.out) ?_
        rintro e w6 ⟨rfl, b6⟩
        have HB6 : Hid (Below w.heap.size w w6) := HB5.out.trans (b6.mono HB5.out.size)
        clear b6
        go_wp2_with fail
        go_ret
        exact ⟨by simp, HB6.out⟩
end Go.Proofs.YtaogilpkeeigoabGreatDoor
