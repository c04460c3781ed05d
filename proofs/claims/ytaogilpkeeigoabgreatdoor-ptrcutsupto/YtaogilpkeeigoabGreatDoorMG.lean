/- Several texts in one: DocTell, DocTold, DocSize, SizeAny, PtrTell, DocToldL, PtrSub, PtrGet, PtrPutTop, PtrLaws, Laid, At, PtrSays2, PtrErrs, PtrSize. -/
import Derived.Test.YtaogilpkeeigoabGreatDoorDocGood
import Derived.Test.YtaogilpkeeigoabGreatDoorDocErr
import Derived.Test.YtaogilpkeeigoabGreatDoorDocShort
import Derived.Test.YtaogilpkeeigoabGreatDoorTop
import Derived.Test.YtaogilpkeeigoabGreatDoorMeasure
import Derived.Test.YtaogilpkeeigoabGreatDoorPtrChangeP
import Derived.Test.YtaogilpkeeigoabGreatDoorDocLift
import Derived.Lib.LaidTab
import Derived.MakeChecks
import Derived.Test.YtaogilpkeeigoabGreatDoorPtrWay
import Derived.LaidSub
import Derived.LaidLaws
/- Plain facts: what is told is read as it was, wherever there is room. -/
namespace Go.Proofs.YtaogilpkeeigoabGreatDoor
set_option linter.unusedVariables false
set_option linter.unusedSimpArgs false
def noDigit (r : Bs) : Prop := isDigit (hd r) = false
theorem digit_of (m : Nat) (h : m < 10) : isDigit (UInt8.ofNat (48 + m)) = true ∧ (UInt8.ofNat (48 + m)).toNat = 48 + m := by
  have e : (UInt8.ofNat (48 + m)).toNat = 48 + m := by simp; omega
  exact ⟨(digit_iff _).2 (by omega), e⟩
theorem dec_digits : ∀ (k u : Nat), u < 10 ^ k → ∀ c ∈ Lib.decDigits u, isDigit c = true
  | 0, u, hu, c, hc => by
    have : u = 0 := by simpa using hu
    subst this
    rw [Lib.decDigits] at hc
    simp at hc
    subst hc
    decide
  | k + 1, u, hu, c, hc => by
    rw [Lib.decDigits] at hc
    split at hc
    · have hc := List.mem_singleton.1 hc
      subst hc
      exact (digit_of u (by assumption)).1
    · rcases List.mem_append.1 hc with hc | hc
      · exact dec_digits k (u / 10) (by rw [Nat.pow_succ] at hu; omega) c hc
      · have hc := List.mem_singleton.1 hc
        subst hc
        exact (digit_of (u % 10) (by omega)).1
theorem decV_snoc (ds : Bs) (c : UInt8) : decV (ds ++ [c]) = 10 * decV ds + (c.toNat - 48) := by
  unfold decV
  rw [List.foldl_append]
  rfl
theorem dec_val : ∀ (k u : Nat), u < 10 ^ k → decV (Lib.decDigits u) = u
  | 0, u, hu => by
    have : u = 0 := by simpa using hu
    subst this
    rw [Lib.decDigits]
    rfl
  | k + 1, u, hu => by
    rw [Lib.decDigits]
    split
    · rename_i h
      have := (digit_of u h).2
      show 10 * 0 + ((UInt8.ofNat (48 + u)).toNat - 48) = u
      omega
    · rw [decV_snoc, dec_val k (u / 10) (by rw [Nat.pow_succ] at hu; omega), (digit_of (u % 10) (by omega)).2]
      omega
theorem dec_first : ∀ (k u : Nat), u < 10 ^ k → 1 ≤ u → hd (Lib.decDigits u) ≠ 48
  | 0, u, hu, h1 => by simp at hu; omega
  | k + 1, u, hu, h1 => by
    rw [Lib.decDigits]
    split
    · rename_i h
      intro e
      have h2 := (digit_of u h).2
      have e' : UInt8.ofNat (48 + u) = 48 := e
      rw [e'] at h2
      have : (48 : UInt8).toNat = 48 := rfl
      omega
    · have ih := dec_first k (u / 10) (by rw [Nat.pow_succ] at hu; omega) (by omega)
      have hne := dec_ne (u / 10)
      cases hd' : Lib.decDigits (u / 10) with
      | nil => exact absurd hd' hne
      | cons c r =>
        rw [hd'] at ih
        exact ih
theorem dec_len' : ∀ (k u : Nat), 1 ≤ k → u < 10 ^ k → (Lib.decDigits u).length ≤ k
  | 0, u, h, _ => by omega
  | k + 1, u, _, hu => by
    rw [Lib.decDigits]
    split
    · simp
    · rename_i h10
      cases k with
      | zero => simp at hu; omega
      | succ k =>
        have := dec_len' (k + 1) (u / 10) (by omega) (by rw [Nat.pow_succ] at hu; omega)
        simp only [List.length_append, List.length_cons, List.length_nil]
        omega
theorem take_digits {ds r : Bs} (h : ∀ c ∈ ds, isDigit c = true) (hr : noDigit r) : (ds ++ r).takeWhile isDigit = ds ∧ (ds ++ r).dropWhile isDigit = r := by
  induction ds with
  | nil =>
    cases r with
    | nil => exact ⟨rfl, rfl⟩
    | cons c r =>
      have hc : isDigit c = false := hr
      simp [List.takeWhile_cons, List.dropWhile_cons, hc]
  | cons d ds ih =>
    have h1 := h d (by simp)
    have h2 := ih (fun c hc => h c (by simp [hc]))
    simp [List.takeWhile_cons, List.dropWhile_cons, h1, h2]
theorem number_dec (below : Bool) (u : Nat) (r : Bs) (hu : u < 10 ^ 18) (hb : below = true → 1 ≤ u) (hr : noDigit r) :
    number ((if below then [45] else []) ++ (Lib.decDigits u ++ r)) = .ok (some (Sum.inr (Sum.inl (if below then -(u : Int) else (u : Int)))), r) := by
  have hdg := dec_digits 18 u hu
  have hv := dec_val 18 u hu
  have hl := dec_len' 18 u (by decide) hu
  have hne := dec_ne u
  have htd := take_digits hdg hr
  have hfirst : hd (Lib.decDigits u) ≠ 45 ∧ (hd (Lib.decDigits u ++ r) = hd (Lib.decDigits u)) := by
    cases hd' : Lib.decDigits u with
    | nil => exact absurd hd' hne
    | cons c t =>
      have hc := (digit_iff c).1 (hdg c (by rw [hd']; simp))
      refine ⟨?_, rfl⟩
      intro e
      have e' : c = 45 := e
      rw [e'] at hc
      have : (45 : UInt8).toNat = 45 := rfl
      omega
  cases below with
  | true =>
    have h1 := hb rfl
    have hf := dec_first 18 u hu h1
    show number (45 :: (Lib.decDigits u ++ r)) = _
    unfold number
    have e1 : (hd (45 :: (Lib.decDigits u ++ r)) == 45) = true := rfl
    simp only [e1, if_true, List.tail_cons, htd.1, htd.2]
    rw [if_neg hne, if_neg (fun e => hf e.1), if_neg (by omega)]
    simp only [numVal, if_true, hv]
  | false =>
    show number (Lib.decDigits u ++ r) = _
    unfold number
    have e1 : (hd (Lib.decDigits u ++ r) == 45) = false := by
      rw [hfirst.2]
      exact beq_eq_false_iff_ne.2 hfirst.1
    simp only [e1, Bool.false_eq_true, if_false, htd.1, htd.2]
    rw [if_neg hne, if_neg, if_neg (by omega)]
    · simp only [numVal, Bool.false_eq_true, if_false, hv]
    · rintro ⟨h1, h2⟩
      rcases h2 with h2 | h2
      · cases h2
      · by_cases h0 : u = 0
        · subst h0
          rw [Lib.decDigits] at h2
          simp at h2
        · exact dec_first 18 u hu (by omega) h1
/-- how a leaf that is told begins, and that it is read -/
theorem leafE_tell (l : Leaf) (h : GoodLeaf l) (r : Bs) (hr : noDigit r) : leafE (tellLeaf l ++ r) = .ok (l, r) ∧ hd (tellLeaf l ++ r) ∈ opens ∧ blank (hd (tellLeaf l ++ r)) = false ∧ hd (tellLeaf l ++ r) ≠ 91 ∧ hd (tellLeaf l ++ r) ≠ 123 := by
  match l, h with
  | none, _ =>
    refine ⟨?_, by show (110 : UInt8) ∈ opens; decide, rfl, by show (110 : UInt8) ≠ 91; decide, by show (110 : UInt8) ≠ 123; decide⟩
    show leafE (nullB ++ r) = _
    unfold leafE
    rw [if_pos (show hd (nullB ++ r) = 110 from rfl), word, if_pos (List.isPrefixOf_iff_prefix.2 (List.prefix_append _ _))]
    simp
  | some (Sum.inl true), _ =>
    refine ⟨?_, by show (116 : UInt8) ∈ opens; decide, rfl, by show (116 : UInt8) ≠ 91; decide, by show (116 : UInt8) ≠ 123; decide⟩
    show leafE (trueB ++ r) = _
    unfold leafE
    rw [if_neg (by show (116 : UInt8) ≠ 110; decide), if_pos (show hd (trueB ++ r) = 116 from rfl), word, if_pos (List.isPrefixOf_iff_prefix.2 (List.prefix_append _ _))]
    simp
  | some (Sum.inl false), _ =>
    refine ⟨?_, by show (102 : UInt8) ∈ opens; decide, rfl, by show (102 : UInt8) ≠ 91; decide, by show (102 : UInt8) ≠ 123; decide⟩
    show leafE (falseB ++ r) = _
    unfold leafE
    rw [if_neg (by show (102 : UInt8) ≠ 110; decide), if_neg (by show (102 : UInt8) ≠ 116; decide), if_pos (show hd (falseB ++ r) = 102 from rfl), word, if_pos (List.isPrefixOf_iff_prefix.2 (List.prefix_append _ _))]
    simp
  | some (Sum.inr (Sum.inr s)), h =>
    refine ⟨?_, by show (34 : UInt8) ∈ opens; decide, rfl, by show (34 : UInt8) ≠ 91; decide, by show (34 : UInt8) ≠ 123; decide⟩
    show leafE (quote s ++ r) = _
    unfold leafE
    have e : hd (quote s ++ r) = 34 := rfl
    rw [e]
    rw [if_neg (by decide), if_neg (by decide), if_neg (by decide), if_pos rfl, textE, quoted_quote s h r]
  | some (Sum.inr (Sum.inl i)), h =>
    have h1 : -1000000000000000000 < i := h.1
    have h2 : i < 1000000000000000000 := h.2
    obtain ⟨below, u, hi, hit, hu, hb⟩ : ∃ (below : Bool) (u : Nat), i = (if below then -(u : Int) else (u : Int)) ∧ Lib.itoa i = (if below then [45] else []) ++ Lib.decDigits u ∧ u < 10 ^ 18 ∧ (below = true → 1 ≤ u) := by
      by_cases hneg : i < 0
      · exact ⟨true, i.natAbs, by simp; omega, by unfold Lib.itoa; rw [if_pos hneg]; rfl, by omega, fun _ => by omega⟩
      · exact ⟨false, i.toNat, by simp; omega, by unfold Lib.itoa; rw [if_neg hneg]; rfl, by omega, fun e => by cases e⟩
    have hn := number_dec below u r hu hb hr
    have hdg := dec_digits 18 u hu
    have hne := dec_ne u
    show leafE (Lib.itoa i ++ r) = _ ∧ hd (Lib.itoa i ++ r) ∈ opens ∧ blank (hd (Lib.itoa i ++ r)) = false ∧ hd (Lib.itoa i ++ r) ≠ 91 ∧ hd (Lib.itoa i ++ r) ≠ 123
    rw [hit, List.append_assoc]
    have hhd : hd ((if below then [45] else []) ++ (Lib.decDigits u ++ r)) = 45 ∨ (48 ≤ (hd ((if below then [45] else []) ++ (Lib.decDigits u ++ r))).toNat ∧ (hd ((if below then [45] else []) ++ (Lib.decDigits u ++ r))).toNat ≤ 57) := by
      cases below with
      | true => exact Or.inl rfl
      | false =>
        right
        cases hd' : Lib.decDigits u with
        | nil => exact absurd hd' hne
        | cons c t => exact (digit_iff c).1 (hdg c (by rw [hd']; simp))
    generalize hX : (if below then [45] else []) ++ (Lib.decDigits u ++ r) = X at *
    have hfacts : hd X ∈ opens ∧ blank (hd X) = false ∧ hd X ≠ 91 ∧ hd X ≠ 123 ∧ hd X ≠ 110 ∧ hd X ≠ 116 ∧ hd X ≠ 102 ∧ hd X ≠ 34 := by
      generalize hd X = c at hhd
      rcases hhd with rfl | ⟨ha, hb'⟩
      · decide
      · have hne' : ∀ m : Nat, m < 256 → (m < 48 ∨ 57 < m) → c ≠ UInt8.ofNat m := by
          intro m hm hm2 e
          subst e
          have : (UInt8.ofNat m).toNat = m := by simp; omega
          omega
        refine ⟨?_, ?_, hne' 91 (by decide) (by decide), hne' 123 (by decide) (by decide), hne' 110 (by decide) (by decide), hne' 116 (by decide) (by decide), hne' 102 (by decide) (by decide), hne' 34 (by decide) (by decide)⟩
        · have hall : ∀ m : Fin 10, UInt8.ofNat (48 + m.val) ∈ opens := by decide
          have hc : c = UInt8.ofNat (48 + (c.toNat - 48)) := by
            apply UInt8.toNat_inj.1
            simp
            omega
          rw [hc]
          exact hall ⟨c.toNat - 48, by omega⟩
        · have h32 := hne' 32 (by decide) (by decide)
          have h10 := hne' 10 (by decide) (by decide)
          have h9 := hne' 9 (by decide) (by decide)
          have e32 : UInt8.ofNat 32 = 32 := rfl
          have e10 : UInt8.ofNat 10 = 10 := rfl
          have e9 : UInt8.ofNat 9 = 9 := rfl
          rw [e32] at h32
          rw [e10] at h10
          rw [e9] at h9
          simp [blank, h32, h10, h9]
    refine ⟨?_, hfacts.1, hfacts.2.1, hfacts.2.2.1, hfacts.2.2.2.1⟩
    unfold leafE
    rw [if_neg hfacts.2.2.2.2.1, if_neg hfacts.2.2.2.2.2.1, if_neg hfacts.2.2.2.2.2.2.1, if_neg hfacts.2.2.2.2.2.2.2, hn, ← hi]
theorem skip_not {r : Bs} (h : blank (hd r) = false) : skip r = r := by
  cases r with
  | nil => rfl
  | cons c r =>
    have hc : blank c = false := h
    rw [skip, if_neg (by simp [hc])]
/-- what comes of reading what is told, at whatever depth and count -/
def Told (m k : Nat) (t : Bs) (many deep : Nat) (r : Bs) : Prop :=
  (∃ j' : J m, value m k (t ++ r) = .ok (j', k + many, r) ∧ tell m j' = t ∧ nodes m j' = many ∧ depth m j' = deep ∧ k + many ≤ 200 ∧ deep ≤ m) ∨
    (value m k (t ++ r) = .error 2 ∧ 200 < k + many) ∨ (value m k (t ++ r) = .error 4 ∧ m < deep)
theorem tell_leafJ (m : Nat) (l : Leaf) : tell m (leaf m l) = tellLeaf l ∧ nodes m (leaf m l) = 1 ∧ depth m (leaf m l) = 0 := by
  cases m <;> exact ⟨rfl, rfl, rfl⟩
theorem value_first {m k : Nat} {r : Bs} (hb : blank (hd r) = false) (ho : hd r ∈ opens) : (200 ≤ k → value m k r = .error 2) ∧ (k < 200 → m = 0 → (hd r = 91 ∨ hd r = 123) → value m k r = .error 4) := by
  have hsk := skip_not hb
  refine ⟨fun hk => ?_, fun hk hm hc => ?_⟩
  · have e : beginE m k (skip r) = 2 := by
      rw [hsk]
      unfold beginE
      rw [if_neg (by simpa using ho), if_pos hk]
    cases m with
    | zero => rw [value, if_pos (by rw [e]; decide), e]
    | succ m => rw [value, if_pos (by rw [e]; decide), e]
  · subst hm
    have e : beginE 0 k (skip r) = 4 := by
      rw [hsk]
      unfold beginE
      rw [if_neg (by simpa using ho), if_neg (by omega), if_pos ⟨rfl, hc⟩]
    rw [value, if_pos (by rw [e]; decide), e]
theorem told_leaf (m k : Nat) (l : Leaf) (h : GoodLeaf l) (r : Bs) (hr : noDigit r) (hk : k ≤ 200) : Told m k (tellLeaf l) 1 0 r := by
  obtain ⟨hl, ho, hb, h91, h123⟩ := leafE_tell l h r hr
  have hv := value_first (m := m) (k := k) hb ho
  have hsk := skip_not hb
  by_cases h200 : 200 ≤ k
  · exact Or.inr (Or.inl ⟨hv.1 h200, by omega⟩)
  · have e : beginE m k (skip (tellLeaf l ++ r)) = 0 := by
      rw [hsk]
      unfold beginE
      rw [if_neg (by simpa using ho), if_neg h200, if_neg]
      rintro ⟨_, h1 | h1⟩
      · exact h91 h1
      · exact h123 h1
    have hval : value m k (tellLeaf l ++ r) = .ok (leaf m l, k + 1, r) := by
      cases m with
      | zero => rw [value, if_neg (by simp [e]), leafAt, hsk, hl]
      | succ m => rw [value, if_neg (by simp [e]), hsk, if_neg h91, if_neg h123, leafAt, hl]
    have ht := tell_leafJ m l
    exact Or.inl ⟨leaf m l, hval, ht.1, ht.2.1, ht.2.2, by omega, Nat.zero_le _⟩
end Go.Proofs.YtaogilpkeeigoabGreatDoor
/- Plain facts: lists and objects that are told are read as they were, wherever there is room; so every value. -/
namespace Go.Proofs.YtaogilpkeeigoabGreatDoor
set_option linter.unusedVariables false
set_option linter.unusedSimpArgs false
/-- every value of depth n that is told is read so -/
def ToldAt (n : Nat) : Prop := ∀ (j : J n), Good n j → ∀ (m k : Nat) (r : Bs), noDigit r → k ≤ 200 → Told m k (tell n j) (nodes n j) (depth n j) r
theorem tell_hd : ∀ (n : Nat) (j : J n), Good n j → ∀ r, noDigit r → hd (tell n j ++ r) ∈ opens ∧ blank (hd (tell n j ++ r)) = false
  | 0, j, h, r, hr => ⟨(leafE_tell j h r hr).2.1, (leafE_tell j h r hr).2.2.1⟩
  | _ + 1, Sum.inl l, h, r, hr => ⟨(leafE_tell l h r hr).2.1, (leafE_tell l h r hr).2.2.1⟩
  | _ + 1, Sum.inr (Sum.inl xs), h, r, hr => ⟨by show (91 : UInt8) ∈ opens; decide, rfl⟩
  | _ + 1, Sum.inr (Sum.inr fs), h, r, hr => ⟨by show (123 : UInt8) ∈ opens; decide, rfl⟩
theorem commas_cons (t : Bs) (ts : List Bs) (r : Bs) : commas (t :: ts) ++ r = t ++ (match ts with | [] => r | _ :: _ => 44 :: (commas ts ++ r)) := by
  cases ts with
  | nil => rfl
  | cons u us => simp [commas]
theorem commas_ge : ∀ ts : List Bs, ts.length ≤ (commas ts).length + 1
  | [] => by simp
  | [x] => by simp
  | x :: y :: r => by
    have := commas_ge (y :: r)
    simp only [commas, List.length_append, List.length_cons] at this ⊢
    omega
/-- what comes of a row of values -/
def RowTold {σ : Type} (m : Nat) (res : Except Nat (σ × Nat × Bs)) (good : σ → Prop) (k many deep : Nat) (r : Bs) : Prop :=
  (∃ s, res = .ok (s, k + many, r) ∧ good s ∧ k + many ≤ 200 ∧ deep ≤ m) ∨ (res = .error 2 ∧ 200 < k + many) ∨ (res = .error 4 ∧ m < deep)
theorem items_told {n : Nat} (ih : ToldAt n) (m : Nat) (r : Bs) : ∀ (rest : List (J n)) (x : J n) (f : Nat) (s : List (J m)) (k : Nat), (∀ y ∈ x :: rest, Good n y) → rest.length < f → k ≤ 200 →
    RowTold m (rowGo 93 (oneItem (value m)) f s k (commas ((x :: rest).map (tell n)) ++ 93 :: r)) (fun s' => ∃ ys, s' = s ++ ys ∧ ys.map (tell m) = (x :: rest).map (tell n) ∧ ys.map (nodes m) = (x :: rest).map (nodes n) ∧ ys.map (depth m) = (x :: rest).map (depth n)) k ((x :: rest).map (nodes n)).sum (maxOf ((x :: rest).map (depth n))) r
  | [], x, 0, s, k, hG, hf, hk => by omega
  | [], x, f + 1, s, k, hG, hf, hk => by
    have h1 := ih x (hG x (by simp)) m k (93 :: r) (by show isDigit 93 = false; decide) hk
    have e : commas (([x] : List (J n)).map (tell n)) ++ 93 :: r = tell n x ++ 93 :: r := rfl
    rw [e]
    have em : (([x] : List (J n)).map (nodes n)).sum = nodes n x := by simp
    have ed : maxOf (([x] : List (J n)).map (depth n)) = depth n x := by simp [maxOf]
    rw [em, ed]
    rcases h1 with ⟨j', hv, ht, hn, hd', h200, hm⟩ | ⟨hv, h200⟩ | ⟨hv, hm⟩
    · refine Or.inl ⟨s ++ [j'], ?_, ⟨[j'], rfl, by simp [ht], by simp [hn], by simp [hd']⟩, h200, hm⟩
      rw [rowGo, oneItem, hv]
      rfl
    · refine Or.inr (Or.inl ⟨?_, h200⟩)
      rw [rowGo, oneItem, hv]
    · refine Or.inr (Or.inr ⟨?_, hm⟩)
      rw [rowGo, oneItem, hv]
  | y :: rest, x, 0, s, k, hG, hf, hk => by omega
  | y :: rest, x, f + 1, s, k, hG, hf, hk => by
    have h1 := ih x (hG x (by simp)) m k (44 :: (commas ((y :: rest).map (tell n)) ++ 93 :: r)) (by show isDigit 44 = false; decide) hk
    have e : commas ((x :: y :: rest).map (tell n)) ++ 93 :: r = tell n x ++ 44 :: (commas ((y :: rest).map (tell n)) ++ 93 :: r) := by
      simp [commas]
    rw [e]
    have em : ((x :: y :: rest).map (nodes n)).sum = nodes n x + ((y :: rest).map (nodes n)).sum := by simp
    have ed : maxOf ((x :: y :: rest).map (depth n)) = max (depth n x) (maxOf ((y :: rest).map (depth n))) := rfl
    rw [em, ed]
    rcases h1 with ⟨j', hv, ht, hn, hd', h200, hm⟩ | ⟨hv, h200⟩ | ⟨hv, hm⟩
    · have ih2 := items_told ih m r rest y f (s ++ [j']) (k + nodes n x) (fun z hz => hG z (by simp at hz ⊢; exact Or.inr hz)) (by simp at hf; omega) h200
      have hgo : rowGo 93 (oneItem (value m)) (f + 1) s k (tell n x ++ 44 :: (commas ((y :: rest).map (tell n)) ++ 93 :: r)) = rowGo 93 (oneItem (value m)) f (s ++ [j']) (k + nodes n x) (commas ((y :: rest).map (tell n)) ++ 93 :: r) := by
        rw [rowGo, oneItem, hv]
        rfl
      rw [hgo]
      rcases ih2 with ⟨s', hr, ⟨ys, rfl, h1, h2, h3⟩, h4, h5⟩ | ⟨hr, h4⟩ | ⟨hr, h4⟩
      · refine Or.inl ⟨s ++ [j'] ++ ys, ?_, ⟨j' :: ys, by simp, by simp [ht, h1], by simp [hn, h2], by simp [hd', h3]⟩, by omega, by omega⟩
        rw [hr]
        simp [Nat.add_assoc]
      · exact Or.inr (Or.inl ⟨hr, by omega⟩)
      · exact Or.inr (Or.inr ⟨hr, by omega⟩)
    · refine Or.inr (Or.inl ⟨?_, by omega⟩)
      rw [rowGo, oneItem, hv]
    · refine Or.inr (Or.inr ⟨?_, by omega⟩)
      rw [rowGo, oneItem, hv]
theorem value_row {m k : Nat} {c : UInt8} {X : Bs} (hk : k < 200) (hc : c = 91 ∨ c = 123) : beginE (m + 1) k (skip (c :: X)) = 0 ∧ skip (c :: X) = c :: X := by
  have hb : blank c = false := by rcases hc with rfl | rfl <;> rfl
  have hsk : skip (c :: X) = c :: X := by rw [skip, if_neg (by simp [hb])]
  refine ⟨?_, hsk⟩
  rw [hsk]
  unfold beginE
  have hh : hd (c :: X) = c := rfl
  rw [hh, if_neg (by rcases hc with rfl | rfl <;> decide), if_neg (by omega), if_neg (by rintro ⟨h, _⟩; omega)]
theorem told_list {n : Nat} (ih : ToldAt n) (xs : List (J n)) (hG : ∀ x ∈ xs, Good n x) (m k : Nat) (r : Bs) (hr : noDigit r) (hk : k ≤ 200) :
    Told m k (tell (n + 1) (Sum.inr (Sum.inl xs))) (nodes (n + 1) (Sum.inr (Sum.inl xs))) (depth (n + 1) (Sum.inr (Sum.inl xs))) r := by
  have et : tell (n + 1) (Sum.inr (Sum.inl xs)) = 91 :: (commas (xs.map (tell n)) ++ [93]) := rfl
  have en : nodes (n + 1) (Sum.inr (Sum.inl xs)) = 1 + (xs.map (nodes n)).sum := rfl
  have ed : depth (n + 1) (Sum.inr (Sum.inl xs)) = 1 + maxOf (xs.map (depth n)) := rfl
  have eX : tell (n + 1) (Sum.inr (Sum.inl xs)) ++ r = 91 :: (commas (xs.map (tell n)) ++ 93 :: r) := by rw [et]; simp
  unfold Told
  rw [eX, en, ed]
  have hv := value_first (m := m) (k := k) (r := 91 :: (commas (xs.map (tell n)) ++ 93 :: r)) rfl (by show (91 : UInt8) ∈ opens; decide)
  by_cases h200 : 200 ≤ k
  · exact Or.inr (Or.inl ⟨hv.1 h200, by omega⟩)
  cases m with
  | zero => exact Or.inr (Or.inr ⟨hv.2 (by omega) rfl (Or.inl rfl), by omega⟩)
  | succ m =>
    obtain ⟨hb, hsk⟩ := value_row (m := m) (k := k) (c := 91) (X := commas (xs.map (tell n)) ++ 93 :: r) (by omega) (Or.inl rfl)
    have hval : value (m + 1) k (91 :: (commas (xs.map (tell n)) ++ 93 :: r)) = match row 93 (oneItem (value m)) [] (k + 1) (91 :: (commas (xs.map (tell n)) ++ 93 :: r)) with
      | .error e => .error e
      | .ok (s, k', r') => .ok (Sum.inr (Sum.inl s), k', r') := by
      rw [value, if_neg (by simp [hb]), hsk, if_pos (show hd (91 :: (commas (xs.map (tell n)) ++ 93 :: r)) = 91 from rfl)]
      cases row 93 (oneItem (value m)) [] (k + 1) (91 :: (commas (xs.map (tell n)) ++ 93 :: r)) <;> rfl
    have hrow : RowTold m (row 93 (oneItem (value m)) [] (k + 1) (91 :: (commas (xs.map (tell n)) ++ 93 :: r))) (fun s' => s'.map (tell m) = xs.map (tell n) ∧ s'.map (nodes m) = xs.map (nodes n) ∧ s'.map (depth m) = xs.map (depth n)) (k + 1) (xs.map (nodes n)).sum (maxOf (xs.map (depth n))) r := by
      cases xs with
      | nil =>
        refine Or.inl ⟨[], ?_, ⟨rfl, rfl, rfl⟩, by simp; omega, by simp [maxOf]⟩
        rfl
      | cons x rest =>
        have hh := tell_hd n x (hG x (by simp)) (match rest.map (tell n) with | [] => 93 :: r | _ :: _ => 44 :: (commas (rest.map (tell n)) ++ 93 :: r)) (by cases rest.map (tell n) <;> rfl)
        have eC : commas ((x :: rest).map (tell n)) ++ 93 :: r = tell n x ++ (match rest.map (tell n) with | [] => 93 :: r | _ :: _ => 44 :: (commas (rest.map (tell n)) ++ 93 :: r)) := commas_cons (tell n x) (rest.map (tell n)) (93 :: r)
        rw [← eC] at hh
        have hi := items_told ih m r rest x ((91 :: (commas ((x :: rest).map (tell n)) ++ 93 :: r)).length + 1) [] (k + 1) hG (by
          have := commas_ge ((x :: rest).map (tell n))
          simp only [List.length_map, List.length_cons, List.length_append] at this ⊢
          omega) (by omega)
        have hne : hd (commas ((x :: rest).map (tell n)) ++ 93 :: r) ≠ 93 := by
          intro e
          rw [e] at hh
          exact absurd hh.1 (by decide)
        have hgo : row 93 (oneItem (value m)) [] (k + 1) (91 :: (commas ((x :: rest).map (tell n)) ++ 93 :: r)) = rowGo 93 (oneItem (value m)) ((91 :: (commas ((x :: rest).map (tell n)) ++ 93 :: r)).length + 1) [] (k + 1) (commas ((x :: rest).map (tell n)) ++ 93 :: r) := by
          rw [row, List.tail_cons, skip_not hh.2, if_neg hne]
        rw [hgo]
        rcases hi with ⟨s', h1, ⟨ys, rfl, h2, h3, h4⟩, h5, h6⟩ | h | h
        · exact Or.inl ⟨_, h1, ⟨by simpa using h2, by simpa using h3, by simpa using h4⟩, h5, h6⟩
        · exact Or.inr (Or.inl h)
        · exact Or.inr (Or.inr h)
    rw [hval]
    rcases hrow with ⟨s', h1, ⟨h2, h3, h4⟩, h5, h6⟩ | ⟨h1, h5⟩ | ⟨h1, h5⟩
    · refine Or.inl ⟨Sum.inr (Sum.inl s'), ?_, ?_, ?_, ?_, by omega, by omega⟩
      · rw [h1]
        simp only [Nat.add_assoc]
      · show 91 :: (commas (s'.map (tell m)) ++ [93]) = _
        rw [h2, et]
      · show 1 + (s'.map (nodes m)).sum = _
        rw [h3]
      · show 1 + maxOf (s'.map (depth m)) = _
        rw [h4]
    · exact Or.inr (Or.inl ⟨by rw [h1], by omega⟩)
    · exact Or.inr (Or.inr ⟨by rw [h1], by omega⟩)
/-- the text of a field -/
def fieldT (n : Nat) (f : Bs × J n) : Bs := quote f.1 ++ 58 :: tell n f.2
theorem insert_end_of {α : Type} {s : List (Bs × α)} {nm : Bs} (v : α) (h : ∀ g ∈ s, less g.1 nm = true) : insertAt s nm v = s ++ [(nm, v)] := by
  have hp : placeOfName s nm = s.length := place_of s nm s.length (Nat.le_refl _) (fun x f hx hf => h f (List.mem_of_getElem? hf)) (fun f hf => by rw [List.getElem?_eq_none (Nat.le_refl _)] at hf; cases hf)
  rw [insert_eq, hp]
  simp
theorem any_of_less {α : Type} {s : List (Bs × α)} {nm : Bs} (h : ∀ g ∈ s, less g.1 nm = true) : (s.any fun f => f.1 == nm) = false := by
  rw [List.any_eq_false]
  intro f hf e
  have e' : f.1 = nm := by simpa using e
  have := h f hf
  rw [e', less_iff, cmp_self] at this
  omega
theorem nameE_told {α : Type} {s : List (Bs × α)} {nm X : Bs} (hm : ∀ c ∈ nm, meant c = true) (h : ∀ g ∈ s, less g.1 nm = true) : nameE s (quote nm ++ 58 :: X) = .ok (nm, X) := by
  have hsk : skip (quote nm ++ 58 :: X) = quote nm ++ 58 :: X := skip_not rfl
  unfold nameE
  rw [hsk, quoted_quote nm hm]
  simp only []
  rw [if_neg (by rw [any_of_less h]; decide)]
  have e : skip (58 :: X) = 58 :: X := skip_not rfl
  rw [e, if_pos (show hd (58 :: X) = 58 from rfl)]
  rfl
theorem fields_told {n : Nat} (ih : ToldAt n) (m : Nat) (r : Bs) : ∀ (rest : List (Bs × J n)) (x : Bs × J n) (f : Nat) (s : List (Bs × J m)) (k : Nat), (∀ y ∈ x :: rest, (∀ c ∈ y.1, meant c = true) ∧ Good n y.2) → Rising (x :: rest) → (∀ g ∈ s, ∀ y ∈ x :: rest, less g.1 y.1 = true) → rest.length < f → k ≤ 200 →
    RowTold m (rowGo 125 (oneField (value m)) f s k (commas ((x :: rest).map (fieldT n)) ++ 125 :: r)) (fun s' => ∃ ys, s' = s ++ ys ∧ ys.map (fieldT m) = (x :: rest).map (fieldT n) ∧ ys.map (fun f => nodes m f.2) = (x :: rest).map (fun f => nodes n f.2) ∧ ys.map (fun f => depth m f.2) = (x :: rest).map (fun f => depth n f.2)) k ((x :: rest).map (fun f => nodes n f.2)).sum (maxOf ((x :: rest).map (fun f => depth n f.2))) r
  | [], x, 0, s, k, hG, hR, hs, hf, hk => by omega
  | [], x, f + 1, s, k, hG, hR, hs, hf, hk => by
    have hx := hG x (by simp)
    have h1 := ih x.2 hx.2 m k (125 :: r) (by show isDigit 125 = false; decide) hk
    have e : commas (([x] : List (Bs × J n)).map (fieldT n)) ++ 125 :: r = quote x.1 ++ 58 :: (tell n x.2 ++ 125 :: r) := by simp [commas, fieldT]
    have hn := nameE_told (X := tell n x.2 ++ 125 :: r) hx.1 (fun g hg => hs g hg x (by simp))
    rw [e]
    have em : (([x] : List (Bs × J n)).map (fun f => nodes n f.2)).sum = nodes n x.2 := by simp
    have ed : maxOf (([x] : List (Bs × J n)).map (fun f => depth n f.2)) = depth n x.2 := by simp [maxOf]
    rw [em, ed]
    rcases h1 with ⟨j', hv, ht, hnn, hd', h200, hm⟩ | ⟨hv, h200⟩ | ⟨hv, hm⟩
    · refine Or.inl ⟨s ++ [(x.1, j')], ?_, ⟨[(x.1, j')], rfl, by simp [ht, fieldT], by simp [hnn], by simp [hd']⟩, h200, hm⟩
      rw [rowGo, oneField, hn]
      simp only [hv]
      rw [insert_end_of j' (fun g hg => hs g hg x (by simp))]
      rfl
    · refine Or.inr (Or.inl ⟨?_, h200⟩)
      rw [rowGo, oneField, hn]
      simp only [hv]
    · refine Or.inr (Or.inr ⟨?_, hm⟩)
      rw [rowGo, oneField, hn]
      simp only [hv]
  | y :: rest, x, 0, s, k, hG, hR, hs, hf, hk => by omega
  | y :: rest, x, f + 1, s, k, hG, hR, hs, hf, hk => by
    have hx := hG x (by simp)
    have h1 := ih x.2 hx.2 m k (44 :: (commas ((y :: rest).map (fieldT n)) ++ 125 :: r)) (by show isDigit 44 = false; decide) hk
    have e : commas ((x :: y :: rest).map (fieldT n)) ++ 125 :: r = quote x.1 ++ 58 :: (tell n x.2 ++ 44 :: (commas ((y :: rest).map (fieldT n)) ++ 125 :: r)) := by simp [commas, fieldT]
    have hn := nameE_told (X := tell n x.2 ++ 44 :: (commas ((y :: rest).map (fieldT n)) ++ 125 :: r)) hx.1 (fun g hg => hs g hg x (by simp))
    rw [e]
    have em : ((x :: y :: rest).map (fun f => nodes n f.2)).sum = nodes n x.2 + ((y :: rest).map (fun f => nodes n f.2)).sum := by simp
    have ed : maxOf ((x :: y :: rest).map (fun f => depth n f.2)) = max (depth n x.2) (maxOf ((y :: rest).map (fun f => depth n f.2))) := rfl
    rw [em, ed]
    have hR' := List.pairwise_cons.1 hR
    rcases h1 with ⟨j', hv, ht, hnn, hd', h200, hm⟩ | ⟨hv, h200⟩ | ⟨hv, hm⟩
    · have ih2 := fields_told ih m r rest y f (s ++ [(x.1, j')]) (k + nodes n x.2) (fun z hz => hG z (by simp at hz ⊢; exact Or.inr hz)) hR'.2 (fun g hg z hz => by
          rcases List.mem_append.1 hg with hg | hg
          · exact hs g hg z (by simp at hz ⊢; exact Or.inr hz)
          · have hg := List.mem_singleton.1 hg
            subst hg
            exact hR'.1 z hz) (by simp at hf; omega) h200
      have hgo : rowGo 125 (oneField (value m)) (f + 1) s k (quote x.1 ++ 58 :: (tell n x.2 ++ 44 :: (commas ((y :: rest).map (fieldT n)) ++ 125 :: r))) = rowGo 125 (oneField (value m)) f (s ++ [(x.1, j')]) (k + nodes n x.2) (commas ((y :: rest).map (fieldT n)) ++ 125 :: r) := by
        rw [rowGo, oneField, hn]
        simp only [hv]
        rw [insert_end_of j' (fun g hg => hs g hg x (by simp))]
        rfl
      rw [hgo]
      rcases ih2 with ⟨s', hr, ⟨ys, rfl, h1, h2, h3⟩, h4, h5⟩ | ⟨hr, h4⟩ | ⟨hr, h4⟩
      · refine Or.inl ⟨s ++ [(x.1, j')] ++ ys, ?_, ⟨(x.1, j') :: ys, by simp, by simp [ht, h1, fieldT], by simp [hnn, h2], by simp [hd', h3]⟩, by omega, by omega⟩
        rw [hr]
        simp [Nat.add_assoc]
      · exact Or.inr (Or.inl ⟨hr, by omega⟩)
      · exact Or.inr (Or.inr ⟨hr, by omega⟩)
    · refine Or.inr (Or.inl ⟨?_, by omega⟩)
      rw [rowGo, oneField, hn]
      simp only [hv]
    · refine Or.inr (Or.inr ⟨?_, by omega⟩)
      rw [rowGo, oneField, hn]
      simp only [hv]
theorem told_object {n : Nat} (ih : ToldAt n) (fs : List (Bs × J n)) (hR : Rising fs) (hG : ∀ f ∈ fs, (∀ c ∈ f.1, meant c = true) ∧ Good n f.2) (m k : Nat) (r : Bs) (hr : noDigit r) (hk : k ≤ 200) :
    Told m k (tell (n + 1) (Sum.inr (Sum.inr fs))) (nodes (n + 1) (Sum.inr (Sum.inr fs))) (depth (n + 1) (Sum.inr (Sum.inr fs))) r := by
  have et : tell (n + 1) (Sum.inr (Sum.inr fs)) = 123 :: (commas (fs.map (fieldT n)) ++ [125]) := rfl
  have en : nodes (n + 1) (Sum.inr (Sum.inr fs)) = 1 + (fs.map (fun f => nodes n f.2)).sum := rfl
  have ed : depth (n + 1) (Sum.inr (Sum.inr fs)) = 1 + maxOf (fs.map (fun f => depth n f.2)) := rfl
  have eX : tell (n + 1) (Sum.inr (Sum.inr fs)) ++ r = 123 :: (commas (fs.map (fieldT n)) ++ 125 :: r) := by rw [et]; simp
  unfold Told
  rw [eX, en, ed]
  have hv := value_first (m := m) (k := k) (r := 123 :: (commas (fs.map (fieldT n)) ++ 125 :: r)) rfl (by show (123 : UInt8) ∈ opens; decide)
  by_cases h200 : 200 ≤ k
  · exact Or.inr (Or.inl ⟨hv.1 h200, by omega⟩)
  cases m with
  | zero => exact Or.inr (Or.inr ⟨hv.2 (by omega) rfl (Or.inr rfl), by omega⟩)
  | succ m =>
    obtain ⟨hb, hsk⟩ := value_row (m := m) (k := k) (c := 123) (X := commas (fs.map (fieldT n)) ++ 125 :: r) (by omega) (Or.inr rfl)
    have hval : value (m + 1) k (123 :: (commas (fs.map (fieldT n)) ++ 125 :: r)) = match row 125 (oneField (value m)) [] (k + 1) (123 :: (commas (fs.map (fieldT n)) ++ 125 :: r)) with
      | .error e => .error e
      | .ok (s, k', r') => .ok (Sum.inr (Sum.inr s), k', r') := by
      rw [value, if_neg (by simp [hb]), hsk, if_neg (show ¬ hd (123 :: (commas (fs.map (fieldT n)) ++ 125 :: r)) = 91 from by show ¬ (123 : UInt8) = 91; decide), if_pos (show hd (123 :: (commas (fs.map (fieldT n)) ++ 125 :: r)) = 123 from rfl)]
      cases row 125 (oneField (value m)) [] (k + 1) (123 :: (commas (fs.map (fieldT n)) ++ 125 :: r)) <;> rfl
    have hrow : RowTold m (row 125 (oneField (value m)) [] (k + 1) (123 :: (commas (fs.map (fieldT n)) ++ 125 :: r))) (fun s' => s'.map (fieldT m) = fs.map (fieldT n) ∧ s'.map (fun f => nodes m f.2) = fs.map (fun f => nodes n f.2) ∧ s'.map (fun f => depth m f.2) = fs.map (fun f => depth n f.2)) (k + 1) (fs.map (fun f => nodes n f.2)).sum (maxOf (fs.map (fun f => depth n f.2))) r := by
      cases fs with
      | nil =>
        refine Or.inl ⟨[], ?_, ⟨rfl, rfl, rfl⟩, by simp; omega, by simp [maxOf]⟩
        rfl
      | cons x rest =>
        have hi := fields_told ih m r rest x ((123 :: (commas ((x :: rest).map (fieldT n)) ++ 125 :: r)).length + 1) [] (k + 1) hG hR (fun g hg => by simp at hg) (by
          have := commas_ge ((x :: rest).map (fieldT n))
          simp only [List.length_map, List.length_cons, List.length_append] at this ⊢
          omega) (by omega)
        have hh : hd (commas ((x :: rest).map (fieldT n)) ++ 125 :: r) = 34 := by
          cases rest <;> rfl
        have hgo : row 125 (oneField (value m)) [] (k + 1) (123 :: (commas ((x :: rest).map (fieldT n)) ++ 125 :: r)) = rowGo 125 (oneField (value m)) ((123 :: (commas ((x :: rest).map (fieldT n)) ++ 125 :: r)).length + 1) [] (k + 1) (commas ((x :: rest).map (fieldT n)) ++ 125 :: r) := by
          rw [row, List.tail_cons, skip_not (by rw [hh]; rfl), if_neg (by rw [hh]; decide)]
        rw [hgo]
        rcases hi with ⟨s', h1, ⟨ys, rfl, h2, h3, h4⟩, h5, h6⟩ | h | h
        · exact Or.inl ⟨_, h1, ⟨by simpa using h2, by simpa using h3, by simpa using h4⟩, h5, h6⟩
        · exact Or.inr (Or.inl h)
        · exact Or.inr (Or.inr h)
    rw [hval]
    rcases hrow with ⟨s', h1, ⟨h2, h3, h4⟩, h5, h6⟩ | ⟨h1, h5⟩ | ⟨h1, h5⟩
    · refine Or.inl ⟨Sum.inr (Sum.inr s'), ?_, ?_, ?_, ?_, by omega, by omega⟩
      · rw [h1]
        simp only [Nat.add_assoc]
      · show 123 :: (commas (s'.map (fieldT m)) ++ [125]) = _
        rw [h2, et]
      · show 1 + (s'.map (fun f => nodes m f.2)).sum = _
        rw [h3]
      · show 1 + maxOf (s'.map (fun f => depth m f.2)) = _
        rw [h4]
    · exact Or.inr (Or.inl ⟨by rw [h1], by omega⟩)
    · exact Or.inr (Or.inr ⟨by rw [h1], by omega⟩)
theorem told_any : ∀ n, ToldAt n
  | 0 => fun j h m k r hr hk => told_leaf m k j h r hr hk
  | n + 1 => fun j h m k r hr hk => by
    have ih := told_any n
    match j, h with
    | Sum.inl l, h => exact told_leaf m k l h r hr hk
    | Sum.inr (Sum.inl xs), h => exact told_list ih xs h m k r hr hk
    | Sum.inr (Sum.inr fs), h => exact told_object ih fs h.1 h.2 m k r hr hk
end Go.Proofs.YtaogilpkeeigoabGreatDoor
/- Plain facts: how many values are read and how deep they lie; what is told, alone and within a list, is read so. -/
namespace Go.Proofs.YtaogilpkeeigoabGreatDoor
set_option linter.unusedVariables false
set_option linter.unusedSimpArgs false
theorem maxOf_bound {b : Nat} : ∀ (l : List Nat), (∀ y ∈ l, y ≤ b) → maxOf l ≤ b
  | [], _ => Nat.zero_le _
  | x :: l, h => by
    have h1 := maxOf_bound l (fun z hz => h z (by simp [hz]))
    have h2 := h x (by simp)
    simp only [maxOf]
    omega
theorem depth_le : ∀ (n : Nat) (j : J n), depth n j ≤ n
  | 0, _ => Nat.le_refl _
  | _ + 1, Sum.inl _ => Nat.zero_le _
  | n + 1, Sum.inr (Sum.inl xs) => by
    have := maxOf_bound (b := n) (xs.map (depth n)) (fun y hy => by
      obtain ⟨z, _, rfl⟩ := List.mem_map.1 hy
      exact depth_le n z)
    show 1 + maxOf (xs.map (depth n)) ≤ n + 1
    omega
  | n + 1, Sum.inr (Sum.inr fs) => by
    have := maxOf_bound (b := n) (fs.map (fun f => depth n f.2)) (fun y hy => by
      obtain ⟨z, _, rfl⟩ := List.mem_map.1 hy
      exact depth_le n z.2)
    show 1 + maxOf (fs.map (fun f => depth n f.2)) ≤ n + 1
    omega
theorem rowGo_inv {σ : Type} {z : UInt8} {one : σ → Nat → Bs → Except Nat (σ × Nat × Bs)} {P : σ → Nat → Prop} (h : ∀ s k r s' k' r', P s k → one s k r = .ok (s', k', r') → P s' k') : ∀ (f : Nat) (s : σ) (k : Nat) (r : Bs) (s' : σ) (k' : Nat) (r' : Bs), P s k → rowGo z one f s k r = .ok (s', k', r') → P s' k'
  | 0, s, k, r, s', k', r', hs, e => by simp [rowGo] at e
  | f + 1, s, k, r, s', k', r', hs, e => by
    rw [rowGo] at e
    cases ho : one s k r with
    | error er => rw [ho] at e; cases e
    | ok p =>
      obtain ⟨s1, k1, r1⟩ := p
      have h1 := h s k r s1 k1 r1 hs ho
      rw [ho] at e
      simp only [] at e
      split at e
      · cases e; exact h1
      · split at e
        · exact rowGo_inv h f s1 k1 _ s' k' r' h1 e
        · cases e
theorem row_inv {σ : Type} {z : UInt8} {one : σ → Nat → Bs → Except Nat (σ × Nat × Bs)} {P : σ → Nat → Prop} (h : ∀ s k r s' k' r', P s k → one s k r = .ok (s', k', r') → P s' k') (s : σ) (k : Nat) (r : Bs) (s' : σ) (k' : Nat) (r' : Bs) (hs : P s k) (e : row z one s k r = .ok (s', k', r')) : P s' k' := by
  unfold row at e
  split at e
  · cases e; exact hs
  · exact rowGo_inv h _ _ _ _ _ _ _ hs e
theorem begin_room {n k : Nat} {r : Bs} (h : beginE n k r = 0) : k < 200 := by
  unfold beginE at h
  split at h
  · simp at h
  · split at h
    · simp at h
    · omega
theorem value_size : ∀ (n : Nat) (k : Nat) (r : Bs) (j : J n) (k' : Nat) (r' : Bs), value n k r = .ok (j, k', r') → k' = k + nodes n j ∧ k' ≤ 200
  | 0, k, r, j, k', r', e => by
    have hb := begin_room (value_cases e).1
    rcases (value_cases e).2 with ⟨l, _, _, hl, rfl, rfl⟩ | ⟨m, hm, _⟩ | ⟨m, hm, _⟩
    · exact ⟨rfl, by omega⟩
    · cases hm
    · cases hm
  | n + 1, k, r, j, k', r', e => by
    have hb := begin_room (value_cases e).1
    rcases (value_cases e).2 with ⟨l, _, _, hl, rfl, rfl⟩ | ⟨m, hm, xs, _, hr, hj⟩ | ⟨m, hm, fs, _, hr, hj⟩
    · exact ⟨rfl, by omega⟩
    · cases hm
      subst hj
      have h := row_inv (one := oneItem (value n)) (P := fun s q => q = k + 1 + (s.map (nodes n)).sum ∧ q ≤ 200) (fun s q r s' q' r' hs ho => by
        obtain ⟨v, hv, rfl⟩ := oneItem_ok ho
        obtain ⟨h1, h2⟩ := value_size n q r v q' r' hv
        refine ⟨?_, h2⟩
        simp only [List.map_append, List.sum_append, List.map_cons, List.map_nil, List.sum_cons, List.sum_nil]
        omega) _ _ _ _ _ _ ⟨by simp, by omega⟩ hr
      refine ⟨?_, h.2⟩
      show k' = k + (1 + (xs.map (nodes n)).sum)
      omega
    · cases hm
      subst hj
      have h := row_inv (one := oneField (value n)) (P := fun s q => q = k + 1 + (s.map (fun f => nodes n f.2)).sum ∧ q ≤ 200) (fun s q r s' q' r' hs ho => by
        obtain ⟨nm, v, r1, hn, hv, rfl⟩ := oneField_ok ho
        obtain ⟨h1, h2⟩ := value_size n q r1 v q' r' hv
        refine ⟨?_, h2⟩
        rw [sum_insert (fun f => nodes n f.2)]
        show q' = k + 1 + ((s.map (fun f => nodes n f.2)).sum + nodes n v)
        omega) _ _ _ _ _ _ ⟨by simp, by omega⟩ hr
      refine ⟨?_, h.2⟩
      show k' = k + (1 + (fs.map (fun f => nodes n f.2)).sum)
      omega
theorem read_val {s : Bs} {j : J 10} (h : read s = .ok j) : ∃ k r, value 10 0 s = .ok (j, k, r) ∧ skip r = [] ∧ s.length ≤ 2000 := by
  unfold read at h
  split at h
  · cases h
  · cases hv : value 10 0 s with
    | error er => rw [hv] at h; cases h
    | ok p =>
      obtain ⟨j1, k1, r1⟩ := p
      rw [hv] at h
      simp only [] at h
      split at h
      · rename_i hl hs
        cases h
        exact ⟨k1, r1, rfl, hs, by omega⟩
      · cases h
theorem nodes_one : ∀ (n : Nat) (j : J n), 1 ≤ nodes n j
  | 0, _ => Nat.le_refl _
  | _ + 1, Sum.inl _ => Nat.le_refl _
  | _ + 1, Sum.inr (Sum.inl _) => Nat.le_add_right _ _
  | _ + 1, Sum.inr (Sum.inr _) => Nat.le_add_right _ _
theorem read_size {s : Bs} {j : J 10} (h : read s = .ok j) : 1 ≤ nodes 10 j ∧ nodes 10 j ≤ 200 ∧ depth 10 j ≤ 10 := by
  obtain ⟨k, r, hv, _, _⟩ := read_val h
  obtain ⟨h1, h2⟩ := value_size _ _ _ _ _ _ hv
  exact ⟨nodes_one _ _, by omega, depth_le _ _⟩
/-- what is told of a value, read -/
theorem read_of_told {t : Bs} {many deep : Nat} (h : Told 10 0 t many deep []) (hl : t.length ≤ 2000) :
    (∃ j', read t = .ok j' ∧ tell 10 j' = t ∧ nodes 10 j' = many ∧ depth 10 j' = deep ∧ many ≤ 200 ∧ deep ≤ 10) ∨ (read t = .error 2 ∧ 200 < many) ∨ (read t = .error 4 ∧ 10 < deep) := by
  unfold Told at h
  rw [List.append_nil] at h
  unfold read
  rw [if_neg (by omega)]
  rcases h with ⟨j', hv, h1, h2, h3, h4, h5⟩ | ⟨hv, h1⟩ | ⟨hv, h1⟩
  · refine Or.inl ⟨j', ?_, h1, h2, h3, by omega, h5⟩
    rw [hv]
    rfl
  · exact Or.inr (Or.inl ⟨by rw [hv], by omega⟩)
  · exact Or.inr (Or.inr ⟨by rw [hv], h1⟩)
theorem noDigit_nil : noDigit [] := by
  show isDigit 0 = false
  decide
theorem read_again {s : Bs} {j : J 10} (h : read s = .ok j) : ∃ j', read (tell 10 j) = .ok j' ∧ tell 10 j' = tell 10 j ∧ nodes 10 j' = nodes 10 j ∧ depth 10 j' = depth 10 j := by
  obtain ⟨h1, h2, h3⟩ := read_size h
  have hs := read_short h
  rcases read_of_told (told_any 10 j (read_good h) 10 0 [] noDigit_nil (by omega)) (by omega) with ⟨j', a, b, c, d, _⟩ | ⟨_, h4⟩ | ⟨_, h4⟩
  · exact ⟨j', a, b, c, d⟩
  · omega
  · omega
theorem read_long {s : Bs} (h : 2000 < s.length) : read s = .error 2 := by
  unfold read
  rw [if_pos h]
/-- within a list -/
def wrapB (t : Bs) : Bs := 91 :: (t ++ [93])
theorem wrap_len (t : Bs) : (wrapB t).length = t.length + 2 := by simp [wrapB]
theorem read_wrap {s : Bs} {j : J 10} (h : read s = .ok j) :
    (1998 < (tell 10 j).length ∧ read (wrapB (tell 10 j)) = .error 2) ∨
    ((tell 10 j).length ≤ 1998 ∧ ((∃ j', read (wrapB (tell 10 j)) = .ok j' ∧ tell 10 j' = wrapB (tell 10 j) ∧ nodes 10 j' = nodes 10 j + 1 ∧ depth 10 j' = depth 10 j + 1 ∧ nodes 10 j < 200 ∧ depth 10 j < 10) ∨ (read (wrapB (tell 10 j)) = .error 2 ∧ nodes 10 j = 200) ∨ (read (wrapB (tell 10 j)) = .error 4 ∧ depth 10 j = 10))) := by
  obtain ⟨h1, h2, h3⟩ := read_size h
  have hw := wrap_len (tell 10 j)
  by_cases hl : 1998 < (tell 10 j).length
  · exact Or.inl ⟨hl, read_long (by omega)⟩
  · refine Or.inr ⟨by omega, ?_⟩
    have ht := told_any 11 (Sum.inr (Sum.inl [j])) (fun x hx => by
      simp only [List.mem_singleton] at hx
      rw [hx]
      exact read_good h) 10 0 [] noDigit_nil (by omega)
    have e1 : tell 11 (Sum.inr (Sum.inl [j])) = wrapB (tell 10 j) := rfl
    have e2 : nodes 11 (Sum.inr (Sum.inl [j])) = nodes 10 j + 1 := by
      show 1 + (nodes 10 j + 0) = _
      omega
    have e3 : depth 11 (Sum.inr (Sum.inl [j])) = depth 10 j + 1 := by
      show 1 + max (depth 10 j) 0 = _
      omega
    rw [e1, e2, e3] at ht
    rcases read_of_told ht (by omega) with ⟨j', a, b, c, d, e, f⟩ | ⟨a, h4⟩ | ⟨a, h4⟩
    · exact Or.inl ⟨j', a, b, c, d, by omega, by omega⟩
    · exact Or.inr (Or.inl ⟨a, by omega⟩)
    · exact Or.inr (Or.inr ⟨a, by omega⟩)
end Go.Proofs.YtaogilpkeeigoabGreatDoor
/- Contracts over this translation of json.Size, at every text. -/
namespace Go.Proofs.YtaogilpkeeigoabGreatDoor
open Go.RowKit
set_option linter.unusedVariables false
set_option linter.unusedSimpArgs false
/-- what Size answers -/
def sizeE (s : Bs) : Array Value :=
  match read s with
  | .error e => #[.int .i64 0, .int .i64 0, .int .i64 e]
  | .ok j => #[.int .i64 (nodes 10 j), .int .i64 (depth 10 j), .int .i64 0]
set_option maxRecDepth 100000 in
set_option maxHeartbeats 2000000 in
theorem size_any (t : ByteArray) (w : World) (hs : t.size ≤ maxLen) :
    Calls Tryz.prog 10 #[.string t] w fun e w' => e = .returned (.tuple (sizeE t.data.toList)) ∧ Below w.heap.size w w' := by
  go_enter Tryz.func10, Tryz.ntmps10
  go_wp2_with fail
  refine (read_any t _ hs).mono ?_
  rintro e w1 ⟨b1, h1⟩
  have HB1 : Hid (Below w.heap.size w w1) := b1
  clear b1
  rcases h1 with ⟨er, hr, her, her2, rfl⟩ | ⟨j, v, hr, rfl, hone, hst⟩
  · have HE : Hid (sizeE t.data.toList = #[.int .i64 0, .int .i64 0, .int .i64 er]) := by
      show sizeE t.data.toList = _
      rw [sizeE, hr]
    have hbe : ((er : Int) != 0) = true := by rw [bne_iff_ne]; omega
    clear hr
    go_wp2_with fail
    exact bodyPost_ret (v := .tuple #[.int .i64 0, .int .i64 0, .int .i64 er]) (by simp [results, Tryz.results10, go_sem]) rfl ⟨by rw [HE.out], HB1.out⟩
  · have HE : Hid (sizeE t.data.toList = #[.int .i64 (nodes 10 j), .int .i64 (depth 10 j), .int .i64 0]) := by
      show sizeE t.data.toList = _
      rw [sizeE, hr]
    have hz := read_size hr
    have hx := measure_ok 10 _ j v w1 hst (by omega) (by omega) (Nat.le_trans (lens_le 10 j) (by have := read_short hr; omega))
    have HX : Hid (Calls Tryz.prog 25 #[v] w1 fun e w' => e = .returned (.agg #[.int .i64 (nodes 10 j), .int .i64 (depth 10 j), .int .i64 (lens 10 j)]) ∧ Below w1.heap.size w1 w') := hx
    clear hr hst hx
    go_wp2_with fail
    refine Calls.mono HX.out ?_
    rintro e w2 ⟨rfl, b2⟩
    have HB2 : Hid (Below w.heap.size w w2) := HB1.out.trans (b2.mono HB1.out.size)
    clear b2
    have hxa : (w2.alloc (.cells #[.int .i64 (nodes 10 j), .int .i64 (depth 10 j), .int .i64 (lens 10 j)] 52)).heap[w2.heap.size]? = some (.cells #[.int .i64 (nodes 10 j), .int .i64 (depth 10 j), .int .i64 (lens 10 j)] 52 (0, 0)) := heap_alloc_new w2 _
    have x0 : (w2.alloc (.cells #[.int .i64 (nodes 10 j), .int .i64 (depth 10 j), .int .i64 (lens 10 j)] 52)).cell? ⟨w2.heap.size, 0, none⟩ = some (.int .i64 (nodes 10 j)) := by rw [cell_of_row _ _ _ _ _ _ hxa]; rfl
    have x1 : (w2.alloc (.cells #[.int .i64 (nodes 10 j), .int .i64 (depth 10 j), .int .i64 (lens 10 j)] 52)).cell? ⟨w2.heap.size, 1, none⟩ = some (.int .i64 (depth 10 j)) := by rw [cell_of_row _ _ _ _ _ _ hxa]; rfl
    have HBa : Hid (Below w.heap.size w (w2.alloc (.cells #[.int .i64 (nodes 10 j), .int .i64 (depth 10 j), .int .i64 (lens 10 j)] 52))) := HB2.out.alloc HB2.out.size _
    clear hxa
    go_wp2_with fail
    generalize w2.alloc (.cells #[.int .i64 (nodes 10 j), .int .i64 (depth 10 j), .int .i64 (lens 10 j)] 52) = wa at *
    go_region
    go_wp2_with fail
    exact bodyPost_ret (v := .tuple #[.int .i64 (nodes 10 j), .int .i64 (depth 10 j), .int .i64 0]) (by simp [results, Tryz.results10, go_sem]) rfl ⟨by rw [HE.out], HBa.out.drew⟩
end Go.Proofs.YtaogilpkeeigoabGreatDoor
/- Contracts over this translation: what was made is told; a document and a pointer are read; the last step apart. -/
namespace Go.Proofs.YtaogilpkeeigoabGreatDoor
open Go.RowKit
set_option linter.unusedVariables false
set_option linter.unusedSimpArgs false
/-- what is told of a value -/
def toldE (n : Nat) (j : J n) : Array Value :=
  if 10 < depth n j then #[.string ByteArray.empty, .int .i64 4]
  else if 200 < nodes n j then #[.string ByteArray.empty, .int .i64 2]
  else if 2000 < (tell n j).length then #[.string ByteArray.empty, .int .i64 2]
  else #[.string ⟨(tell n j).toArray⟩, .int .i64 0]
/-- a value that may be told: what it holds is not too great to be looked at -/
structure Fine (n : Nat) (j : J n) : Prop where
  fit : Fit n j
  nodes : nodes n j ≤ 100000
  depth : depth n j ≤ 100000
  len : (tell n j).length ≤ 100000000
set_option maxRecDepth 100000 in
set_option maxHeartbeats 2000000 in
theorem tellJ_any (n : Nat) (j : J n) (v : Value) (w : World) (hSt : S0 w n j v) (hF : Fine n j) (hT : Tab w.heap.size w) :
    Calls Tryz.prog 22 #[v] w fun e w' => e = .returned (.tuple (toldE n j)) ∧ Below w.heap.size w w' := by
  have HM : Hid (Calls Tryz.prog 25 #[v] w fun e w' => e = .returned (.agg #[.int .i64 (nodes n j), .int .i64 (depth n j), .int .i64 (lens n j)]) ∧ Below w.heap.size w w') := measure_ok n _ j v w hSt hF.nodes hF.depth (Nat.le_trans (lens_le n j) hF.len)
  have HX : Hid (∀ w1, Below w.heap.size w w1 → Calls Tryz.prog 32 #[v] w1 fun e w' => e = .returned (.string ⟨(tell n j).toArray⟩) ∧ Below w1.heap.size w1 w') := fun w1 hb =>
    text_any n _ j v w1 (hSt.on hb) hF.fit ((hT.below hb).mono hb.size) hF.len
  have HE : Hid (toldE n j = if 10 < depth n j then #[.string ByteArray.empty, .int .i64 4] else if 200 < nodes n j then #[.string ByteArray.empty, .int .i64 2] else if 2000 < (tell n j).length then #[.string ByteArray.empty, .int .i64 2] else #[.string ⟨(tell n j).toArray⟩, .int .i64 0]) := rfl
  have hn1 := hF.nodes
  have hd1 := hF.depth
  have hsz : (⟨(tell n j).toArray⟩ : ByteArray).size = (tell n j).length := size_of _
  have hlen := hF.len
  have hbl := lens_le n j
  clear hSt hF hT
  generalize toldE n j = res at *
  generalize nodes n j = nn at *
  generalize depth n j = dd at *
  generalize lens n j = bb at *
  generalize (tell n j).length = ll at *
  generalize (⟨(tell n j).toArray⟩ : ByteArray) = tx at *
  go_enter Tryz.func22, Tryz.ntmps22
  go_wp2_with fail
  refine Calls.mono HM.out ?_
  rintro e w1 ⟨rfl, b1⟩
  have hxa : (w1.alloc (.cells #[.int .i64 nn, .int .i64 dd, .int .i64 bb] 52)).heap[w1.heap.size]? = some (.cells #[.int .i64 nn, .int .i64 dd, .int .i64 bb] 52 (0, 0)) := heap_alloc_new w1 _
  have x0 : (w1.alloc (.cells #[.int .i64 nn, .int .i64 dd, .int .i64 bb] 52)).cell? ⟨w1.heap.size, 0, none⟩ = some (.int .i64 nn) := by rw [cell_of_row _ _ _ _ _ _ hxa]; rfl
  have x1 : (w1.alloc (.cells #[.int .i64 nn, .int .i64 dd, .int .i64 bb] 52)).cell? ⟨w1.heap.size, 1, none⟩ = some (.int .i64 dd) := by rw [cell_of_row _ _ _ _ _ _ hxa]; rfl
  have x2 : (w1.alloc (.cells #[.int .i64 nn, .int .i64 dd, .int .i64 bb] 52)).cell? ⟨w1.heap.size, 2, none⟩ = some (.int .i64 bb) := by rw [cell_of_row _ _ _ _ _ _ hxa]; rfl
  have HBa : Hid (Below w.heap.size w (w1.alloc (.cells #[.int .i64 nn, .int .i64 dd, .int .i64 bb] 52))) := b1.alloc b1.size _
  clear hxa b1
  by_cases h10 : 10 < dd
  · have hI : (10 : Int) < (dd : Int) := by omega
    have HR : Hid (res = #[.string ByteArray.empty, .int .i64 4]) := by show _ = _; rw [HE.out, if_pos h10]
    go_wp2_with fail
    go_ret2
    exact ⟨by rw [HR.out]; rfl, HBa.out⟩
  · have hI : ¬ (10 : Int) < (dd : Int) := by omega
    by_cases h200 : 200 < nn
    · have hI2 : (200 : Int) < (nn : Int) := by omega
      have HR : Hid (res = #[.string ByteArray.empty, .int .i64 2]) := by show _ = _; rw [HE.out, if_neg h10, if_pos h200]
      go_wp2_with fail
      go_ret2
      exact ⟨by rw [HR.out]; rfl, HBa.out⟩
    · have hI2 : ¬ (200 : Int) < (nn : Int) := by omega
      have HR0 : Hid (res = if 2000 < ll then #[.string ByteArray.empty, .int .i64 2] else #[.string tx, .int .i64 0]) := by show _ = _; rw [HE.out, if_neg h10, if_neg h200]
      clear h10 h200
      by_cases hbb : 2000 < bb
      · have hI4 : (2000 : Int) < (bb : Int) := by omega
        have HR : Hid (res = #[.string ByteArray.empty, .int .i64 2]) := by show _ = _; rw [HR0.out, if_pos (by omega)]
        go_wp2_with fail
        go_ret2
        exact ⟨by rw [HR.out]; rfl, HBa.out⟩
      · have hI4 : ¬ (2000 : Int) < (bb : Int) := by omega
        go_wp2_with fail
        generalize w1.alloc (.cells #[.int .i64 nn, .int .i64 dd, .int .i64 bb] 52) = wa at *
        refine Calls.mono (HX.out _ HBa.out) ?_
        rintro e w2 ⟨rfl, b2⟩
        have HB2 : Hid (Below w.heap.size w w2) := HBa.out.trans (b2.mono HBa.out.size)
        clear b2 x0 x1 x2
        by_cases h2000 : 2000 < ll
        · have hI3 : (2000 : Int) < (tx.size : Int) := by omega
          have HR : Hid (res = #[.string ByteArray.empty, .int .i64 2]) := by show _ = _; rw [HR0.out, if_pos h2000]
          go_wp2_with fail
          go_ret2
          exact ⟨by rw [HR.out]; rfl, HB2.out⟩
        · have hI3 : ¬ (2000 : Int) < (tx.size : Int) := by omega
          have HR : Hid (res = #[.string tx, .int .i64 0]) := by show _ = _; rw [HR0.out, if_neg h2000]
          go_wp2_with fail
          go_ret2
          exact ⟨by rw [HR.out]; rfl, HB2.out⟩
/-- a text read as a value, with room -/
def rd20 (N : Nat) (s : Bs) : Except Nat (J N) := (read s).map (lift 10 N)
theorem rd20_err {N : Nat} {s : Bs} {e : Nat} (h : read s = .error e) : rd20 N s = .error e := by unfold rd20; rw [h]; rfl
theorem rd20_ok {N : Nat} {s : Bs} {j : J 10} (h : read s = .ok j) : rd20 N s = .ok (lift 10 N j) := by unfold rd20; rw [h]; rfl
/-- what is known of what was read of a document and a pointer -/
def DocPost (N : Nat) (doc p : Bs) (w : World) (e : Ending) (w' : World) : Prop :=
  Below w.heap.size w w' ∧ ((∃ er : Nat, rd20 N doc = .error er ∧ er ≠ 0 ∧ er < 100 ∧ e = .returned (.tuple #[.nilIface, .slice none 0 0, .int .i64 er])) ∨
    (∃ (D : J N) (er : Nat), rd20 N doc = .ok D ∧ stepsE p = .error er ∧ er ≠ 0 ∧ er < 100 ∧ e = .returned (.tuple #[.nilIface, .slice none 0 0, .int .i64 er])) ∨
    ∃ (D : J N) (L : List Bs) (T : TypeId) (x : Value) (q : Option Addr) (cap : Nat), rd20 N doc = .ok D ∧ stepsE p = .ok L ∧ e = .returned (.tuple #[.iface T x, .slice q L.length cap, .int .i64 0]) ∧ S0 w' N D (.iface T x) ∧ Strs w' (.slice q L.length cap) L)
theorem st_lift {av : Nat → Prop} {w : World} : ∀ (n m : Nat) (j : J n) (v : Value), depth n j ≤ m → St av w n j v → St av w m (lift n m j) v
  | 0, m, l, v, _, h => by
    have e : v = leafV l := h
    subst e
    exact st_leaf av w m l
  | _ + 1, m, Sum.inl l, v, _, h => by
    have e : v = leafV l := h
    subst e
    exact st_leaf av w m l
  | n + 1, 0, Sum.inr (Sum.inl xs), v, hd, h => by
    have h1 : 1 + maxOf (xs.map (depth n)) ≤ 0 := hd
    omega
  | n + 1, 0, Sum.inr (Sum.inr fs), v, hd, h => by
    have h1 : 1 + maxOf (fs.map fun f => depth n f.2) ≤ 0 := hd
    omega
  | n + 1, m + 1, Sum.inr (Sum.inl xs), v, hd, h => by
    rcases h with ⟨rfl, rfl⟩ | ⟨g, cap, vs, hv, hl, hc, hm, hg, hlt, hcell, hel⟩
    · exact Or.inl ⟨rfl, rfl⟩
    · refine Or.inr ⟨g, cap, vs, by rw [hv, List.length_map], by rw [hl, List.length_map], by rw [List.length_map]; exact hc, hm, hg, hlt, hcell, fun i x u hx hu => ?_⟩
      rw [List.getElem?_map] at hx
      obtain ⟨y, hy, rfl⟩ := Option.map_eq_some_iff.1 hx
      exact st_lift n m y u (deep_item hd y (List.mem_of_getElem? hy)) (hel i y u hy hu)
  | n + 1, m + 1, Sum.inr (Sum.inr fs), v, hd, h => by
    rcases h with ⟨rfl, rfl⟩ | ⟨g, cap, vs, hv, hl, hc, hm, hg, hlt, hcell, hel⟩
    · exact Or.inl ⟨rfl, rfl⟩
    · refine Or.inr ⟨g, cap, vs, by rw [hv, List.length_map], by rw [hl, List.length_map], by rw [List.length_map]; exact hc, hm, hg, hlt, fun i f u hf hu => ?_, fun i f u hf hu => ?_⟩
      · rw [List.getElem?_map] at hf
        obtain ⟨y, hy, rfl⟩ := Option.map_eq_some_iff.1 hf
        exact hcell i y u hy hu
      · rw [List.getElem?_map] at hf
        obtain ⟨y, hy, rfl⟩ := Option.map_eq_some_iff.1 hf
        exact st_lift n m y.2 u (deep_field hd y (List.mem_of_getElem? hy)) (hel i y u hy hu)
set_option maxRecDepth 100000 in
set_option maxHeartbeats 2000000 in
theorem read20_any (N : Nat) (hN : 20 ≤ N) (t : ByteArray) (w : World) (hs : t.size ≤ 8000000) :
    Calls Tryz.prog 23 #[.string t] w fun e w' => Below w.heap.size w w' ∧ ((∃ er : Nat, rd20 N t.data.toList = .error er ∧ er ≠ 0 ∧ er < 100 ∧ e = .returned (.tuple #[.nilIface, .int .i64 er])) ∨ ∃ (D : J N) (T : TypeId) (x : Value), rd20 N t.data.toList = .ok D ∧ e = .returned (.tuple #[.iface T x, .int .i64 0]) ∧ S0 w' N D (.iface T x)) := by
  refine (read_any t w (by unfold maxLen; omega)).mono ?_
  rintro e w1 ⟨b1, h1⟩
  refine ⟨b1, ?_⟩
  rcases h1 with ⟨er, hr, h2, h3, rfl⟩ | ⟨j, v, hr, rfl, ⟨T, x, rfl⟩, hst⟩
  · exact Or.inl ⟨er, rd20_err hr, h2, h3, rfl⟩
  · exact Or.inr ⟨lift 10 N j, T, x, rd20_ok hr, rfl, st_lift 10 N j _ (Nat.le_trans (depth_bound 10 j) (by omega)) hst.s0⟩
set_option maxRecDepth 100000 in
set_option maxHeartbeats 2000000 in
theorem readDoc_any (N : Nat) (hN : 20 ≤ N) (doc p : ByteArray) (w : World) (hd' : doc.size ≤ 8000000) (hp : p.size ≤ 8000000) (hE : Env w) :
    Calls Tryz.prog 16 #[.string doc, .string p] w (DocPost N doc.data.toList p.data.toList w) := by
  have HE : Hid (Env w) := hE
  clear hE
  go_enter Tryz.func16, Tryz.ntmps16
  go_wp2_with fail
  refine (read20_any N hN doc w hd').mono ?_
  rintro e w1 ⟨b1, h1⟩
  have HB1 : Hid (Below w.heap.size w w1) := b1
  clear b1
  rcases h1 with ⟨er, h2, h3, h4, rfl⟩ | ⟨D, T, x, h2, rfl, h3⟩
  · have HR : Hid (rd20 N doc.data.toList = .error er) := h2
    have hbe : ((er : Int) != 0) = true := by rw [bne_iff_ne]; omega
    clear h2
    go_wp2_with fail
    exact bodyPost_ret (v := .tuple #[.nilIface, .slice none 0 0, .int .i64 er]) (by simp [results, Tryz.results16, go_sem]) rfl ⟨HB1.out, Or.inl ⟨er, HR.out, h3, h4, rfl⟩⟩
  · have HR : Hid (rd20 N doc.data.toList = .ok D) := h2
    have HS : Hid (S0 w1 N D (.iface T x)) := h3
    clear h2 h3
    go_wp2_with fail
    refine (steps_any p w1 hp (HE.out.below HB1.out).room).mono ?_
    rintro e w2 ⟨b2, h2⟩
    have HB2 : Hid (Below w.heap.size w w2) := HB1.out.trans (b2.mono HB1.out.size)
    have HS2 : Hid (S0 w2 N D (.iface T x)) := HS.out.on b2
    clear b2
    rcases h2 with ⟨er, h2, h3, h4, rfl⟩ | ⟨L, v, h2, rfl, h3⟩
    · have HR2 : Hid (stepsE p.data.toList = .error er) := h2
      have hbe : ((er : Int) != 0) = true := by rw [bne_iff_ne]; omega
      clear h2
      go_wp2_with fail
      exact bodyPost_ret (v := .tuple #[.nilIface, .slice none 0 0, .int .i64 er]) (by simp [results, Tryz.results16, go_sem]) rfl ⟨HB2.out, Or.inr (Or.inl ⟨D, er, HR.out, HR2.out, h3, h4, rfl⟩)⟩
    · have HR2 : Hid (stepsE p.data.toList = .ok L) := h2
      have hq : ∃ q cap, v = .slice q L.length cap := by
        rcases h3 with ⟨rfl, q, c, h⟩ | ⟨g, o, cap, h, _⟩
        · exact ⟨q, c, h⟩
        · exact ⟨_, _, h⟩
      obtain ⟨q, cap, rfl⟩ := hq
      have HL : Hid (Strs w2 (.slice q L.length cap) L) := h3
      clear h2 h3
      go_wp2_with fail
      exact bodyPost_ret (v := .tuple #[.iface T x, .slice q L.length cap, .int .i64 0]) (by simp [results, Tryz.results16, go_sem]) rfl ⟨HB2.out, Or.inr (Or.inr ⟨D, L, T, x, q, cap, HR.out, HR2.out, rfl, HS2.out, HL.out⟩)⟩
end Go.Proofs.YtaogilpkeeigoabGreatDoor
/- Plain facts: what is told of a value is read as just that value, wherever there is room. -/
namespace Go.Proofs.YtaogilpkeeigoabGreatDoor
set_option linter.unusedVariables false
set_option linter.unusedSimpArgs false
/-- what comes of reading what is told, at whatever depth and count -/
def ToldL (n : Nat) (j : J n) (m k : Nat) (r : Bs) : Prop :=
  (value m k (tell n j ++ r) = .ok (lift n m j, k + nodes n j, r) ∧ k + nodes n j ≤ 200 ∧ depth n j ≤ m) ∨
    (value m k (tell n j ++ r) = .error 2 ∧ 200 < k + nodes n j) ∨ (value m k (tell n j ++ r) = .error 4 ∧ m < depth n j)
def ToldLAt (n : Nat) : Prop := ∀ (j : J n), Good n j → ∀ (m k : Nat) (r : Bs), noDigit r → k ≤ 200 → ToldL n j m k r
theorem leaf_value (m k : Nat) (l : Leaf) (h : GoodLeaf l) (r : Bs) (hr : noDigit r) (hk : k ≤ 200) : (value m k (tellLeaf l ++ r) = .ok (leaf m l, k + 1, r) ∧ k + 1 ≤ 200 ∧ 0 ≤ m) ∨ (value m k (tellLeaf l ++ r) = .error 2 ∧ 200 < k + 1) ∨ (value m k (tellLeaf l ++ r) = .error 4 ∧ m < 0) := by
  obtain ⟨hl, ho, hb, h91, h123⟩ := leafE_tell l h r hr
  have hv := value_first (m := m) (k := k) hb ho
  have hsk := skip_not hb
  by_cases h200 : 200 ≤ k
  · exact Or.inr (Or.inl ⟨hv.1 h200, by omega⟩)
  · have e : beginE m k (skip (tellLeaf l ++ r)) = 0 := by
      rw [hsk]
      unfold beginE
      rw [if_neg (by simpa using ho), if_neg h200, if_neg]
      rintro ⟨_, h1 | h1⟩
      · exact h91 h1
      · exact h123 h1
    have hval : value m k (tellLeaf l ++ r) = .ok (leaf m l, k + 1, r) := by
      cases m with
      | zero => rw [value, if_neg (by simp [e]), leafAt, hsk, hl]
      | succ m => rw [value, if_neg (by simp [e]), hsk, if_neg h91, if_neg h123, leafAt, hl]
    exact Or.inl ⟨hval, by omega, Nat.zero_le _⟩
theorem items_toldL {n : Nat} (ih : ToldLAt n) (m : Nat) (r : Bs) : ∀ (rest : List (J n)) (x : J n) (f : Nat) (s : List (J m)) (k : Nat), (∀ y ∈ x :: rest, Good n y) → rest.length < f → k ≤ 200 →
    RowTold m (rowGo 93 (oneItem (value m)) f s k (commas ((x :: rest).map (tell n)) ++ 93 :: r)) (fun s' => s' = s ++ (x :: rest).map (lift n m)) k ((x :: rest).map (nodes n)).sum (maxOf ((x :: rest).map (depth n))) r
  | [], x, 0, s, k, hG, hf, hk => by omega
  | [], x, f + 1, s, k, hG, hf, hk => by
    have h1 := ih x (hG x (by simp)) m k (93 :: r) (by show isDigit 93 = false; decide) hk
    have e : commas (([x] : List (J n)).map (tell n)) ++ 93 :: r = tell n x ++ 93 :: r := rfl
    rw [e]
    have em : (([x] : List (J n)).map (nodes n)).sum = nodes n x := by simp
    have ed : maxOf (([x] : List (J n)).map (depth n)) = depth n x := by simp [maxOf]
    rw [em, ed]
    rcases h1 with ⟨hv, h200, hm⟩ | ⟨hv, h200⟩ | ⟨hv, hm⟩
    · refine Or.inl ⟨s ++ [lift n m x], ?_, rfl, h200, hm⟩
      rw [rowGo, oneItem, hv]
      rfl
    · refine Or.inr (Or.inl ⟨?_, h200⟩)
      rw [rowGo, oneItem, hv]
    · refine Or.inr (Or.inr ⟨?_, hm⟩)
      rw [rowGo, oneItem, hv]
  | y :: rest, x, 0, s, k, hG, hf, hk => by omega
  | y :: rest, x, f + 1, s, k, hG, hf, hk => by
    have h1 := ih x (hG x (by simp)) m k (44 :: (commas ((y :: rest).map (tell n)) ++ 93 :: r)) (by show isDigit 44 = false; decide) hk
    have e : commas ((x :: y :: rest).map (tell n)) ++ 93 :: r = tell n x ++ 44 :: (commas ((y :: rest).map (tell n)) ++ 93 :: r) := by
      simp [commas]
    rw [e]
    have em : ((x :: y :: rest).map (nodes n)).sum = nodes n x + ((y :: rest).map (nodes n)).sum := by simp
    have ed : maxOf ((x :: y :: rest).map (depth n)) = max (depth n x) (maxOf ((y :: rest).map (depth n))) := rfl
    rw [em, ed]
    rcases h1 with ⟨hv, h200, hm⟩ | ⟨hv, h200⟩ | ⟨hv, hm⟩
    · have ih2 := items_toldL ih m r rest y f (s ++ [lift n m x]) (k + nodes n x) (fun z hz => hG z (by simp at hz ⊢; exact Or.inr hz)) (by simp at hf; omega) h200
      have hgo : rowGo 93 (oneItem (value m)) (f + 1) s k (tell n x ++ 44 :: (commas ((y :: rest).map (tell n)) ++ 93 :: r)) = rowGo 93 (oneItem (value m)) f (s ++ [lift n m x]) (k + nodes n x) (commas ((y :: rest).map (tell n)) ++ 93 :: r) := by
        rw [rowGo, oneItem, hv]
        rfl
      rw [hgo]
      rcases ih2 with ⟨s', hr, rfl, h4, h5⟩ | ⟨hr, h4⟩ | ⟨hr, h4⟩
      · refine Or.inl ⟨_, ?_, rfl, by omega, by omega⟩
        rw [hr]
        simp [Nat.add_assoc]
      · exact Or.inr (Or.inl ⟨hr, by omega⟩)
      · exact Or.inr (Or.inr ⟨hr, by omega⟩)
    · refine Or.inr (Or.inl ⟨?_, by omega⟩)
      rw [rowGo, oneItem, hv]
    · refine Or.inr (Or.inr ⟨?_, by omega⟩)
      rw [rowGo, oneItem, hv]
theorem told_listL {n : Nat} (ih : ToldLAt n) (xs : List (J n)) (hG : ∀ x ∈ xs, Good n x) (m k : Nat) (r : Bs) (hr : noDigit r) (hk : k ≤ 200) :
    ToldL (n + 1) (Sum.inr (Sum.inl xs)) m k r := by
  have et : tell (n + 1) (Sum.inr (Sum.inl xs)) = 91 :: (commas (xs.map (tell n)) ++ [93]) := rfl
  have en : nodes (n + 1) (Sum.inr (Sum.inl xs)) = 1 + (xs.map (nodes n)).sum := rfl
  have ed : depth (n + 1) (Sum.inr (Sum.inl xs)) = 1 + maxOf (xs.map (depth n)) := rfl
  have eX : tell (n + 1) (Sum.inr (Sum.inl xs)) ++ r = 91 :: (commas (xs.map (tell n)) ++ 93 :: r) := by rw [et]; simp
  unfold ToldL
  rw [eX, en, ed]
  have hv := value_first (m := m) (k := k) (r := 91 :: (commas (xs.map (tell n)) ++ 93 :: r)) rfl (by show (91 : UInt8) ∈ opens; decide)
  by_cases h200 : 200 ≤ k
  · exact Or.inr (Or.inl ⟨hv.1 h200, by omega⟩)
  cases m with
  | zero => exact Or.inr (Or.inr ⟨hv.2 (by omega) rfl (Or.inl rfl), by omega⟩)
  | succ m =>
    obtain ⟨hb, hsk⟩ := value_row (m := m) (k := k) (c := 91) (X := commas (xs.map (tell n)) ++ 93 :: r) (by omega) (Or.inl rfl)
    have hval : value (m + 1) k (91 :: (commas (xs.map (tell n)) ++ 93 :: r)) = match row 93 (oneItem (value m)) [] (k + 1) (91 :: (commas (xs.map (tell n)) ++ 93 :: r)) with
      | .error e => .error e
      | .ok (s, k', r') => .ok (Sum.inr (Sum.inl s), k', r') := by
      rw [value, if_neg (by simp [hb]), hsk, if_pos (show hd (91 :: (commas (xs.map (tell n)) ++ 93 :: r)) = 91 from rfl)]
      cases row 93 (oneItem (value m)) [] (k + 1) (91 :: (commas (xs.map (tell n)) ++ 93 :: r)) <;> rfl
    have hrow : RowTold m (row 93 (oneItem (value m)) [] (k + 1) (91 :: (commas (xs.map (tell n)) ++ 93 :: r))) (fun s' => s' = xs.map (lift n m)) (k + 1) (xs.map (nodes n)).sum (maxOf (xs.map (depth n))) r := by
      cases xs with
      | nil =>
        refine Or.inl ⟨[], ?_, rfl, by simp; omega, by simp [maxOf]⟩
        rfl
      | cons x rest =>
        have hh := tell_hd n x (hG x (by simp)) (match rest.map (tell n) with | [] => 93 :: r | _ :: _ => 44 :: (commas (rest.map (tell n)) ++ 93 :: r)) (by cases rest.map (tell n) <;> rfl)
        have eC : commas ((x :: rest).map (tell n)) ++ 93 :: r = tell n x ++ (match rest.map (tell n) with | [] => 93 :: r | _ :: _ => 44 :: (commas (rest.map (tell n)) ++ 93 :: r)) := commas_cons (tell n x) (rest.map (tell n)) (93 :: r)
        rw [← eC] at hh
        have hi := items_toldL ih m r rest x ((91 :: (commas ((x :: rest).map (tell n)) ++ 93 :: r)).length + 1) [] (k + 1) hG (by
          have := commas_ge ((x :: rest).map (tell n))
          simp only [List.length_map, List.length_cons, List.length_append] at this ⊢
          omega) (by omega)
        have hne : hd (commas ((x :: rest).map (tell n)) ++ 93 :: r) ≠ 93 := by
          intro e
          rw [e] at hh
          exact absurd hh.1 (by decide)
        have hgo : row 93 (oneItem (value m)) [] (k + 1) (91 :: (commas ((x :: rest).map (tell n)) ++ 93 :: r)) = rowGo 93 (oneItem (value m)) ((91 :: (commas ((x :: rest).map (tell n)) ++ 93 :: r)).length + 1) [] (k + 1) (commas ((x :: rest).map (tell n)) ++ 93 :: r) := by
          rw [row, List.tail_cons, skip_not hh.2, if_neg hne]
        rw [hgo]
        rcases hi with ⟨s', h1, rfl, h5, h6⟩ | h | h
        · exact Or.inl ⟨_, h1, by simp, h5, h6⟩
        · exact Or.inr (Or.inl h)
        · exact Or.inr (Or.inr h)
    rw [hval]
    rcases hrow with ⟨s', h1, rfl, h5, h6⟩ | ⟨h1, h5⟩ | ⟨h1, h5⟩
    · refine Or.inl ⟨?_, by omega, by omega⟩
      rw [h1]
      simp only [Nat.add_assoc]
      rfl
    · exact Or.inr (Or.inl ⟨by rw [h1], by omega⟩)
    · exact Or.inr (Or.inr ⟨by rw [h1], by omega⟩)
theorem fields_toldL {n : Nat} (ih : ToldLAt n) (m : Nat) (r : Bs) : ∀ (rest : List (Bs × J n)) (x : Bs × J n) (f : Nat) (s : List (Bs × J m)) (k : Nat), (∀ y ∈ x :: rest, (∀ c ∈ y.1, meant c = true) ∧ Good n y.2) → Rising (x :: rest) → (∀ g ∈ s, ∀ y ∈ x :: rest, less g.1 y.1 = true) → rest.length < f → k ≤ 200 →
    RowTold m (rowGo 125 (oneField (value m)) f s k (commas ((x :: rest).map (fieldT n)) ++ 125 :: r)) (fun s' => s' = s ++ (x :: rest).map (fun f => (f.1, lift n m f.2))) k ((x :: rest).map (fun f => nodes n f.2)).sum (maxOf ((x :: rest).map (fun f => depth n f.2))) r
  | [], x, 0, s, k, hG, hR, hs, hf, hk => by omega
  | [], x, f + 1, s, k, hG, hR, hs, hf, hk => by
    have hx := hG x (by simp)
    have h1 := ih x.2 hx.2 m k (125 :: r) (by show isDigit 125 = false; decide) hk
    have e : commas (([x] : List (Bs × J n)).map (fieldT n)) ++ 125 :: r = quote x.1 ++ 58 :: (tell n x.2 ++ 125 :: r) := by simp [commas, fieldT]
    have hn := nameE_told (X := tell n x.2 ++ 125 :: r) hx.1 (fun g hg => hs g hg x (by simp))
    rw [e]
    have em : (([x] : List (Bs × J n)).map (fun f => nodes n f.2)).sum = nodes n x.2 := by simp
    have ed : maxOf (([x] : List (Bs × J n)).map (fun f => depth n f.2)) = depth n x.2 := by simp [maxOf]
    rw [em, ed]
    rcases h1 with ⟨hv, h200, hm⟩ | ⟨hv, h200⟩ | ⟨hv, hm⟩
    · refine Or.inl ⟨s ++ [(x.1, lift n m x.2)], ?_, rfl, h200, hm⟩
      rw [rowGo, oneField, hn]
      simp only [hv]
      rw [insert_end_of (lift n m x.2) (fun g hg => hs g hg x (by simp))]
      rfl
    · refine Or.inr (Or.inl ⟨?_, h200⟩)
      rw [rowGo, oneField, hn]
      simp only [hv]
    · refine Or.inr (Or.inr ⟨?_, hm⟩)
      rw [rowGo, oneField, hn]
      simp only [hv]
  | y :: rest, x, 0, s, k, hG, hR, hs, hf, hk => by omega
  | y :: rest, x, f + 1, s, k, hG, hR, hs, hf, hk => by
    have hx := hG x (by simp)
    have h1 := ih x.2 hx.2 m k (44 :: (commas ((y :: rest).map (fieldT n)) ++ 125 :: r)) (by show isDigit 44 = false; decide) hk
    have e : commas ((x :: y :: rest).map (fieldT n)) ++ 125 :: r = quote x.1 ++ 58 :: (tell n x.2 ++ 44 :: (commas ((y :: rest).map (fieldT n)) ++ 125 :: r)) := by simp [commas, fieldT]
    have hn := nameE_told (X := tell n x.2 ++ 44 :: (commas ((y :: rest).map (fieldT n)) ++ 125 :: r)) hx.1 (fun g hg => hs g hg x (by simp))
    rw [e]
    have em : ((x :: y :: rest).map (fun f => nodes n f.2)).sum = nodes n x.2 + ((y :: rest).map (fun f => nodes n f.2)).sum := by simp
    have ed : maxOf ((x :: y :: rest).map (fun f => depth n f.2)) = max (depth n x.2) (maxOf ((y :: rest).map (fun f => depth n f.2))) := rfl
    rw [em, ed]
    have hR' := List.pairwise_cons.1 hR
    rcases h1 with ⟨hv, h200, hm⟩ | ⟨hv, h200⟩ | ⟨hv, hm⟩
    · have ih2 := fields_toldL ih m r rest y f (s ++ [(x.1, lift n m x.2)]) (k + nodes n x.2) (fun z hz => hG z (by simp at hz ⊢; exact Or.inr hz)) hR'.2 (fun g hg z hz => by
          rcases List.mem_append.1 hg with hg | hg
          · exact hs g hg z (by simp at hz ⊢; exact Or.inr hz)
          · have hg := List.mem_singleton.1 hg
            subst hg
            exact hR'.1 z hz) (by simp at hf; omega) h200
      have hgo : rowGo 125 (oneField (value m)) (f + 1) s k (quote x.1 ++ 58 :: (tell n x.2 ++ 44 :: (commas ((y :: rest).map (fieldT n)) ++ 125 :: r))) = rowGo 125 (oneField (value m)) f (s ++ [(x.1, lift n m x.2)]) (k + nodes n x.2) (commas ((y :: rest).map (fieldT n)) ++ 125 :: r) := by
        rw [rowGo, oneField, hn]
        simp only [hv]
        rw [insert_end_of (lift n m x.2) (fun g hg => hs g hg x (by simp))]
        rfl
      rw [hgo]
      rcases ih2 with ⟨s', hr, rfl, h4, h5⟩ | ⟨hr, h4⟩ | ⟨hr, h4⟩
      · refine Or.inl ⟨_, ?_, rfl, by omega, by omega⟩
        rw [hr]
        simp [Nat.add_assoc]
      · exact Or.inr (Or.inl ⟨hr, by omega⟩)
      · exact Or.inr (Or.inr ⟨hr, by omega⟩)
    · refine Or.inr (Or.inl ⟨?_, by omega⟩)
      rw [rowGo, oneField, hn]
      simp only [hv]
    · refine Or.inr (Or.inr ⟨?_, by omega⟩)
      rw [rowGo, oneField, hn]
      simp only [hv]
theorem told_objectL {n : Nat} (ih : ToldLAt n) (fs : List (Bs × J n)) (hR : Rising fs) (hG : ∀ f ∈ fs, (∀ c ∈ f.1, meant c = true) ∧ Good n f.2) (m k : Nat) (r : Bs) (hr : noDigit r) (hk : k ≤ 200) :
    ToldL (n + 1) (Sum.inr (Sum.inr fs)) m k r := by
  have et : tell (n + 1) (Sum.inr (Sum.inr fs)) = 123 :: (commas (fs.map (fieldT n)) ++ [125]) := rfl
  have en : nodes (n + 1) (Sum.inr (Sum.inr fs)) = 1 + (fs.map (fun f => nodes n f.2)).sum := rfl
  have ed : depth (n + 1) (Sum.inr (Sum.inr fs)) = 1 + maxOf (fs.map (fun f => depth n f.2)) := rfl
  have eX : tell (n + 1) (Sum.inr (Sum.inr fs)) ++ r = 123 :: (commas (fs.map (fieldT n)) ++ 125 :: r) := by rw [et]; simp
  unfold ToldL
  rw [eX, en, ed]
  have hv := value_first (m := m) (k := k) (r := 123 :: (commas (fs.map (fieldT n)) ++ 125 :: r)) rfl (by show (123 : UInt8) ∈ opens; decide)
  by_cases h200 : 200 ≤ k
  · exact Or.inr (Or.inl ⟨hv.1 h200, by omega⟩)
  cases m with
  | zero => exact Or.inr (Or.inr ⟨hv.2 (by omega) rfl (Or.inr rfl), by omega⟩)
  | succ m =>
    obtain ⟨hb, hsk⟩ := value_row (m := m) (k := k) (c := 123) (X := commas (fs.map (fieldT n)) ++ 125 :: r) (by omega) (Or.inr rfl)
    have hval : value (m + 1) k (123 :: (commas (fs.map (fieldT n)) ++ 125 :: r)) = match row 125 (oneField (value m)) [] (k + 1) (123 :: (commas (fs.map (fieldT n)) ++ 125 :: r)) with
      | .error e => .error e
      | .ok (s, k', r') => .ok (Sum.inr (Sum.inr s), k', r') := by
      rw [value, if_neg (by simp [hb]), hsk, if_neg (show ¬ hd (123 :: (commas (fs.map (fieldT n)) ++ 125 :: r)) = 91 from by show ¬ (123 : UInt8) = 91; decide), if_pos (show hd (123 :: (commas (fs.map (fieldT n)) ++ 125 :: r)) = 123 from rfl)]
      cases row 125 (oneField (value m)) [] (k + 1) (123 :: (commas (fs.map (fieldT n)) ++ 125 :: r)) <;> rfl
    have hrow : RowTold m (row 125 (oneField (value m)) [] (k + 1) (123 :: (commas (fs.map (fieldT n)) ++ 125 :: r))) (fun s' => s' = fs.map (fun f => (f.1, lift n m f.2))) (k + 1) (fs.map (fun f => nodes n f.2)).sum (maxOf (fs.map (fun f => depth n f.2))) r := by
      cases fs with
      | nil =>
        refine Or.inl ⟨[], ?_, rfl, by simp; omega, by simp [maxOf]⟩
        rfl
      | cons x rest =>
        have hi := fields_toldL ih m r rest x ((123 :: (commas ((x :: rest).map (fieldT n)) ++ 125 :: r)).length + 1) [] (k + 1) hG hR (fun g hg => by simp at hg) (by
          have := commas_ge ((x :: rest).map (fieldT n))
          simp only [List.length_map, List.length_cons, List.length_append] at this ⊢
          omega) (by omega)
        have hh : hd (commas ((x :: rest).map (fieldT n)) ++ 125 :: r) = 34 := by
          cases rest <;> rfl
        have hgo : row 125 (oneField (value m)) [] (k + 1) (123 :: (commas ((x :: rest).map (fieldT n)) ++ 125 :: r)) = rowGo 125 (oneField (value m)) ((123 :: (commas ((x :: rest).map (fieldT n)) ++ 125 :: r)).length + 1) [] (k + 1) (commas ((x :: rest).map (fieldT n)) ++ 125 :: r) := by
          rw [row, List.tail_cons, skip_not (by rw [hh]; rfl), if_neg (by rw [hh]; decide)]
        rw [hgo]
        rcases hi with ⟨s', h1, rfl, h5, h6⟩ | h | h
        · exact Or.inl ⟨_, h1, by simp, h5, h6⟩
        · exact Or.inr (Or.inl h)
        · exact Or.inr (Or.inr h)
    rw [hval]
    rcases hrow with ⟨s', h1, rfl, h5, h6⟩ | ⟨h1, h5⟩ | ⟨h1, h5⟩
    · refine Or.inl ⟨?_, by omega, by omega⟩
      rw [h1]
      simp only [Nat.add_assoc]
      rfl
    · exact Or.inr (Or.inl ⟨by rw [h1], by omega⟩)
    · exact Or.inr (Or.inr ⟨by rw [h1], by omega⟩)
theorem told_anyL : ∀ n, ToldLAt n
  | 0 => fun j h m k r hr hk => leaf_value m k j h r hr hk
  | n + 1 => fun j h m k r hr hk => by
    have ih := told_anyL n
    match j, h with
    | Sum.inl l, h => exact leaf_value m k l h r hr hk
    | Sum.inr (Sum.inl xs), h => exact told_listL ih xs h m k r hr hk
    | Sum.inr (Sum.inr fs), h => exact told_objectL ih fs h.1 h.2 m k r hr hk
/-- what is told of a value within the limits is read as that value -/
theorem read_told {n : Nat} {j : J n} (hg : Good n j) (hn : nodes n j ≤ 200) (hd' : depth n j ≤ 10) (hl : (tell n j).length ≤ 2000) : read (tell n j) = .ok (lift n 10 j) := by
  have h := told_anyL n j hg 10 0 [] noDigit_nil (by omega)
  unfold ToldL at h
  rw [List.append_nil] at h
  unfold read
  rw [if_neg (by omega)]
  rcases h with ⟨hv, h1, h2⟩ | ⟨hv, h1⟩ | ⟨hv, h1⟩
  · rw [hv]
    rfl
  · omega
  · omega
end Go.Proofs.YtaogilpkeeigoabGreatDoor
/- Plain facts: how great what steps lead to is; what is known of a value that was read. -/
namespace Go.Proofs.YtaogilpkeeigoabGreatDoor
set_option linter.unusedVariables false
set_option linter.unusedSimpArgs false
theorem commas_mem : ∀ (ts : List Bs) (t : Bs), t ∈ ts → t.length ≤ (commas ts).length
  | [], t, h => by simp at h
  | [x], t, h => by
    simp at h
    subst h
    exact Nat.le_refl _
  | x :: y :: r, t, h => by
    rcases List.mem_cons.1 h with rfl | h
    · simp [commas]
    · have := commas_mem (y :: r) t h
      simp only [commas, List.length_append, List.length_cons] at this ⊢
      omega
theorem len_child {n : Nat} {j : J (n + 1)} {s : Bs} {c : J n} (hr : Rise (n + 1) j) (h : childP j s = some c) : (tell n c).length ≤ (tell (n + 1) j).length ∧ depth n c + 1 ≤ depth (n + 1) j := by
  match j, hr, h with
  | Sum.inr (Sum.inl xs), hr, h =>
    obtain ⟨i, hi, hx⟩ := Option.bind_eq_some_iff.1 (show ((placeP s).bind fun i => xs[i]?) = some c from h)
    have hm := List.mem_of_getElem? hx
    have h1 := commas_mem (xs.map (tell n)) (tell n c) (List.mem_map.2 ⟨c, hm, rfl⟩)
    have h2 := maxOf_mem (xs.map (depth n)) (depth n c) (List.mem_map.2 ⟨c, hm, rfl⟩)
    refine ⟨?_, ?_⟩
    · show (tell n c).length ≤ (91 :: (commas (xs.map (tell n)) ++ [93])).length
      simp only [List.length_cons, List.length_append]
      omega
    · show depth n c + 1 ≤ 1 + maxOf (xs.map (depth n))
      omega
  | Sum.inr (Sum.inr fs), hr, h =>
    have hm := fieldAt_mem hr.1 h
    have h1 := commas_mem (fs.map fun f => quote f.1 ++ 58 :: tell n f.2) (quote s ++ 58 :: tell n c) (List.mem_map.2 ⟨(s, c), hm, rfl⟩)
    have h2 := maxOf_mem (fs.map fun f => depth n f.2) (depth n c) (List.mem_map.2 ⟨(s, c), hm, rfl⟩)
    refine ⟨?_, ?_⟩
    · show (tell n c).length ≤ (123 :: (commas (fs.map fun f => quote f.1 ++ 58 :: tell n f.2) ++ [125])).length
      simp only [List.length_cons, List.length_append] at h1 ⊢
      omega
    · show depth n c + 1 ≤ 1 + maxOf (fs.map fun f => depth n f.2)
      omega
/-- what steps lead to is no greater -/
theorem get_said : ∀ (l : List Bs) (n : Nat) (j c : J n), Good n j → getP n j l = some c → Good n c ∧ nodes n c ≤ nodes n j ∧ (tell n c).length ≤ (tell n j).length ∧ depth n c ≤ depth n j
  | [], n, j, c, hg, h => by
    have e : j = c := by cases n <;> exact Option.some.inj h
    subst e
    exact ⟨hg, Nat.le_refl _, Nat.le_refl _, Nat.le_refl _⟩
  | s :: r, 0, j, c, hg, h => by cases h
  | s :: r, n + 1, j, c, hg, h => by
    obtain ⟨c1, c2, h1, h2, rfl⟩ := getP_step h
    have hr := rise_of_good _ _ hg
    have ih := get_said r n c1 c2 (good_child hg h1) h2
    have hs := lift_said n (n + 1) c2 (Nat.le_trans (depth_bound n c2) (by omega))
    have hn := nodes_child hr h1
    have hl := len_child hr h1
    rw [hs.1, hs.2.1, hs.2.2.1]
    exact ⟨good_lift _ _ _ ih.1, by omega, by omega, by omega⟩
/-- within the limits of documents -/
structure Told20 (N : Nat) (D : J N) : Prop where
  good : Good N D
  nodes : nodes N D ≤ 200
  depth : depth N D ≤ 10
  len : (tell N D).length ≤ 2000
theorem rd20_told {N : Nat} (hN : 20 ≤ N) {s : Bs} {D : J N} (h : rd20 N s = .ok D) : Told20 N D := by
  unfold rd20 at h
  cases hr : read s with
  | error e => rw [hr] at h; cases h
  | ok j =>
    rw [hr] at h
    have e : lift 10 N j = D := by
      have h' : Except.ok (lift 10 N j) = (Except.ok D : Except Nat (J N)) := h
      exact Except.ok.inj h'
    subst e
    have hs := lift_said 10 N j (Nat.le_trans (depth_bound 10 j) (by omega))
    have h1 := read_size hr
    have h2 := read_short hr
    exact ⟨good_lift _ _ _ (read_good hr), by rw [hs.2.1]; omega, by rw [hs.2.2.1]; omega, by rw [hs.1]; omega⟩
theorem Told20.fine {N : Nat} {D : J N} (h : Told20 N D) : Fine N D := ⟨fit_of_good _ _ h.good, by have := h.nodes; omega, by have := h.depth; omega, by have := h.len; omega⟩
theorem Told20.told {N : Nat} {D : J N} (h : Told20 N D) : toldE N D = #[.string ⟨(tell N D).toArray⟩, .int .i64 0] := by
  unfold toldE
  rw [if_neg (by have := h.depth; omega), if_neg (by have := h.nodes; omega), if_neg (by have := h.len; omega)]
/-- what is told is read as it was -/
theorem Told20.again {N : Nat} {D : J N} (hN : 20 ≤ N) (h : Told20 N D) : rd20 N (tell N D) = .ok D := by
  rw [rd20_ok (read_told h.good h.nodes h.depth h.len), lift_lift _ _ _ _ h.depth, lift_self]
theorem Told20.get {N : Nat} {D c : J N} {l : List Bs} (h : Told20 N D) (hc : getP N D l = some c) : Told20 N c := by
  obtain ⟨h1, h2, h3, h4⟩ := get_said l N D c h.good hc
  have := h.nodes
  have := h.depth
  have := h.len
  exact ⟨h1, by omega, by omega, by omega⟩
theorem toldE_lift {m N : Nat} (c : J m) (h : m ≤ N) : toldE N (lift m N c) = toldE m c := by
  have hs := lift_said m N c (Nat.le_trans (depth_bound m c) h)
  unfold toldE
  rw [hs.1, hs.2.1, hs.2.2.1]
theorem fine_low {m N : Nat} (c : J m) (h : m ≤ N) (hF : Told20 N (lift m N c)) (hf : Fit m c) : Fine m c := by
  have hs := lift_said m N c (Nat.le_trans (depth_bound m c) h)
  have h1 := hF.nodes
  have h2 := hF.depth
  have h3 := hF.len
  rw [hs.2.1] at h1
  rw [hs.2.2.1] at h2
  rw [hs.1] at h3
  exact ⟨hf, by omega, by omega, by omega⟩
theorem fit_low : ∀ (m N : Nat) (c : J m), depth m c ≤ N → Fit N (lift m N c) → Fit m c
  | 0, N, l, _, h => by cases N <;> exact h
  | _ + 1, N, Sum.inl l, _, h => by cases N <;> exact h
  | m + 1, 0, Sum.inr (Sum.inl xs), hd, h => by
    have h1 : 1 + maxOf (xs.map (depth m)) ≤ 0 := hd
    omega
  | m + 1, 0, Sum.inr (Sum.inr fs), hd, h => by
    have h1 : 1 + maxOf (fs.map fun f => depth m f.2) ≤ 0 := hd
    omega
  | m + 1, N + 1, Sum.inr (Sum.inl xs), hd, h => fun x hx => fit_low m N x (deep_item hd x hx) (h _ (List.mem_map.2 ⟨x, hx, rfl⟩))
  | m + 1, N + 1, Sum.inr (Sum.inr fs), hd, h => fun f hf => fit_low m N f.2 (deep_field hd f hf) (h (f.1, lift m N f.2) (List.mem_map.2 ⟨f, hf, rfl⟩))
end Go.Proofs.YtaogilpkeeigoabGreatDoor
/- Contract over this translation of ptr.Get. -/
namespace Go.Proofs.YtaogilpkeeigoabGreatDoor
open Go.RowKit
set_option linter.unusedVariables false
set_option linter.unusedSimpArgs false
/-- what Get answers -/
def getA (N : Nat) (doc p : Bs) : Array Value :=
  match rd20 N doc with
  | .error e => #[.string ByteArray.empty, .int .i64 e]
  | .ok D => match stepsE p with
    | .error e => #[.string ByteArray.empty, .int .i64 e]
    | .ok L => match getP N D L with
      | none => #[.string ByteArray.empty, .int .i64 7]
      | some c => toldE N c
theorem toldE_form (n : Nat) (j : J n) : ∃ (s : ByteArray) (er : Nat), toldE n j = #[.string s, .int .i64 er] := by
  unfold toldE
  split
  · exact ⟨_, 4, rfl⟩
  · split
    · exact ⟨_, 2, rfl⟩
    · split
      · exact ⟨_, 2, rfl⟩
      · exact ⟨_, 0, rfl⟩
set_option maxRecDepth 100000 in
set_option maxHeartbeats 2000000 in
theorem get_any (N : Nat) (hN : 20 ≤ N) (doc p : ByteArray) (w : World) (hd' : doc.size ≤ 8000000) (hp : p.size ≤ 8000000) (hE : Env w) :
    Calls Tryz.prog 8 #[.string doc, .string p] w fun e w' => e = .returned (.tuple (getA N doc.data.toList p.data.toList)) ∧ Below w.heap.size w w' := by
  have HE : Hid (Env w) := hE
  obtain ⟨res, hres⟩ : ∃ res, getA N doc.data.toList p.data.toList = res := ⟨_, rfl⟩
  have HG : Hid (getA N doc.data.toList p.data.toList = res) := hres
  rw [hres]
  have hpl : p.data.toList.length = p.size := by simp
  clear hE hres
  go_enter Tryz.func8, Tryz.ntmps8
  go_wp2_with fail
  refine (readDoc_any N hN doc p w hd' hp HE.out).mono ?_
  rintro e w1 ⟨b1, h1⟩
  have HB1 : Hid (Below w.heap.size w w1) := b1
  clear b1
  rcases h1 with ⟨er, h2, h3, h4, rfl⟩ | ⟨D, er, h2, h3, h4, h5, rfl⟩ | ⟨D, L, T, x, q, cap, h2, h3, rfl, h4, h5⟩
  · have HR : Hid (res = #[.string ByteArray.empty, .int .i64 er]) := by
      show res = _
      rw [← HG.out, getA, h2]
    have hbe : ((er : Int) != 0) = true := by rw [bne_iff_ne]; omega
    clear h2
    go_wp2_with fail
    go_ret2
    exact ⟨by rw [HR.out]; rfl, HB1.out⟩
  · have HR : Hid (res = #[.string ByteArray.empty, .int .i64 er]) := by
      show res = _
      rw [← HG.out, getA, h2]
      simp only [h3]
    have hbe : ((er : Int) != 0) = true := by rw [bne_iff_ne]; omega
    clear h2 h3
    go_wp2_with fail
    go_ret2
    exact ⟨by rw [HR.out]; rfl, HB1.out⟩
  · have HR : Hid (res = match getP N D L with
        | none => #[.string ByteArray.empty, .int .i64 7]
        | some c => toldE N c) := by
      show res = _
      rw [← HG.out, getA, h2]
      simp only [h3]
    have hT := rd20_told hN h2
    have HT : Hid (Told20 N D) := hT
    have hsum := steps_sum h3
    have hlen := (join_steps h3).2
    have HF : Hid (Calls Tryz.prog 21 #[.iface T x, .slice q L.length cap] w1 (FindPost (fun _ => False) (getP N D L) w1)) :=
      findSteps_any (fun _ => False) D T x _ L w1 h4 (rise_of_good _ _ hT.good) (by have := hT.nodes; omega) h5 (by omega) (fun s hs => by
        obtain ⟨i, hi, rfl⟩ := List.getElem_of_mem hs
        have := len_le_sum L i hi
        omega) (HE.out.below HB1.out)
    clear h2 h3 h4 h5 hT hsum hlen
    go_wp2_with fail
    refine Calls.mono HF.out ?_
    rintro e w2 ⟨b2, h2⟩
    have HB2 : Hid (Below w.heap.size w w2) := HB1.out.trans (b2.mono HB1.out.size)
    clear b2
    rcases h2 with ⟨h2, rfl⟩ | ⟨m, c, T2, x2, h2, h3, rfl, h4⟩
    · have HR2 : Hid (res = #[.string ByteArray.empty, .int .i64 7]) := by show res = _; rw [HR.out, h2]
      clear h2
      go_wp2_with fail
      go_ret2
      exact ⟨by rw [HR2.out]; rfl, HB2.out⟩
    · have hTc : Told20 N (lift m N c) := HT.out.get h3
      have hFc : Fine m c := fine_low c h2 hTc (fit_low m N c (Nat.le_trans (depth_bound m c) h2) (fit_of_good _ _ hTc.good))
      have HR2 : Hid (res = toldE m c) := by show res = _; rw [HR.out, h3]; exact toldE_lift c h2
      have HTl := tellJ_any m c (.iface T2 x2) w2 h4 hFc (HE.out.below HB2.out).tab
      obtain ⟨s, er, hform⟩ := toldE_form m c
      rw [hform] at HTl
      have HR3 : Hid (res = #[.string s, .int .i64 er]) := HR2.out.trans hform
      have HTl' : Hid (Calls Tryz.prog 22 #[.iface T2 x2] w2 fun e w' => e = .returned (.tuple #[.string s, .int .i64 er]) ∧ Below w2.heap.size w2 w') := HTl
      clear HTl hTc hFc h3 h4 hform
      go_wp2_with fail
      refine Calls.mono HTl'.out ?_
      rintro e w3 ⟨rfl, b3⟩
      have HB3 : Hid (Below w.heap.size w w3) := HB2.out.trans (b3.mono HB2.out.size)
      clear b3
      go_wp2_with fail
      go_ret2
      exact ⟨by rw [HR3.out]; rfl, HB3.out⟩
end Go.Proofs.YtaogilpkeeigoabGreatDoor
/- Contract over this translation of ptr.Put. -/
namespace Go.Proofs.YtaogilpkeeigoabGreatDoor
open Go.RowKit
set_option linter.unusedVariables false
set_option linter.unusedSimpArgs false
set_option maxRecDepth 100000 in
set_option maxHeartbeats 1000000 in
theorem apart_nil (q : Option Addr) (cap : Nat) (w : World) : Calls Tryz.prog 34 #[.slice q 0 cap] w fun e w' => e = .returned (.tuple #[.slice none 0 0, .string ByteArray.empty, .bool false]) ∧ Below w.heap.size w w' := by
  go_enter Tryz.func34, Tryz.ntmps34
  go_wp2_with fail
  exact bodyPost_ret (v := .tuple #[.slice none 0 0, .string ByteArray.empty, .bool false]) (by simp [results, Tryz.results34, go_sem]; rfl) rfl ⟨rfl, Below.refl _ _⟩
set_option maxRecDepth 100000 in
set_option maxHeartbeats 2000000 in
theorem apart_some (M : List Bs) (s : Bs) (q : Option Addr) (cap : Nat) (w : World) (hL : Strs w (.slice q (M ++ [s]).length cap) (M ++ [s])) (hlen : M.length ≤ 1000) :
    Calls Tryz.prog 34 #[.slice q (M ++ [s]).length cap] w fun e w' => e = .returned (.tuple #[.slice q M.length cap, .string ⟨s.toArray⟩, .bool true]) ∧ Below w.heap.size w w' ∧ Strs w' (.slice q M.length cap) M := by
  have hl : (M ++ [s]).length = M.length + 1 := by simp
  rw [hl] at hL ⊢
  have hq : ∃ g o, q = some ⟨g, o, none⟩ ∧ M.length + 1 ≤ cap ∧ cap ≤ maxLen ∧ g < w.heap.size ∧ w.cell? ⟨g, o + M.length, none⟩ = some (.string ⟨s.toArray⟩) ∧ ∀ (i : Nat) (t : Bs), M[i]? = some t → w.cell? ⟨g, o + i, none⟩ = some (.string ⟨t.toArray⟩) := by
    rcases hL with ⟨h, _⟩ | ⟨g, o, cap', h, h1, h2, h3, h4⟩
    · simp at h
    · simp only [Value.slice.injEq] at h
      obtain ⟨rfl, _, rfl⟩ := h
      refine ⟨g, o, rfl, by simpa using h1, h2, h3, h4 M.length s (by simp), fun i t ht => h4 i t ?_⟩
      rw [List.getElem?_append_left (List.getElem?_eq_some_iff.1 ht).1]
      exact ht
  obtain ⟨g, o, rfl, hlc, hcm, hg, hc, hcs⟩ := hq
  unfold maxLen at hcm
  have HS : Hid (∀ w1, Below w.heap.size w w1 → Strs w1 (.slice (some ⟨g, o, none⟩) M.length cap) M) := fun w1 hb =>
    (show Strs w (.slice (some ⟨g, o, none⟩) M.length cap) M from Or.inr ⟨g, o, cap, rfl, by omega, by unfold maxLen; omega, hg, hcs⟩).below hb
  have hw1 : IntKind.i64.wrap (M.length : Int) = (M.length : Int) := wrap_nat _ (by omega)
  clear hL hcs hl
  generalize (⟨s.toArray⟩ : ByteArray) = sb at *
  generalize M.length = len at *
  go_enter Tryz.func34, Tryz.ntmps34
  go_wp2_with fail
  go_region
  all_goals go_wp2_with fail
  all_goals exact bodyPost_ret (v := .tuple #[.slice (some ⟨g, o, none⟩) len cap, .string sb, .bool true]) (by simp [results, Tryz.results34, go_sem]) rfl ⟨rfl, (Below.refl _ _).drew, HS.out _ (Below.refl _ _).drew⟩
set_option maxRecDepth 100000 in
set_option maxHeartbeats 2000000 in
theorem putS1_any (c0 c1 n : Nat) (j : J (n + 1)) (c : J n) (T T' : TypeId) (x x' : Value) (s : ByteArray) (w : World) (hc0 : w.cell? ⟨c0, 0, none⟩ = some (.string s)) (hc1 : w.cell? ⟨c1, 0, none⟩ = some (.iface T' x')) (hSt : S0 w (n + 1) j (.iface T x)) (hr : Rise (n + 1) j) (hn : nodes (n + 1) j ≤ 2000) (hx : S0 w n c (.iface T' x')) (hs : s.size ≤ 8000000) (hE : Env w) :
    Calls Tryz.prog 43 #[.iface T x, .pointer (some ⟨c0, 0, none⟩), .pointer (some ⟨c1, 0, none⟩)] w (MadePost (n + 1) (putAt j s.data.toList c) w) := by
  have HP : Hid (Calls Tryz.prog 44 #[.iface T x, .string s, .iface T' x'] w (MadePost (n + 1) (putAt j s.data.toList c) w)) := put_any j c (.iface T x) s T' x' w hSt hr hn hx hs hE
  clear hSt hr hn hx hE
  generalize putAt j s.data.toList c = r at *
  go_enter Tryz.func43, Tryz.ntmps43
  go_wp2_with fail
  refine Calls.mono HP.out ?_
  rintro e w1 ⟨b1, h1⟩
  have HB : Hid (Below w.heap.size w w1) := b1
  clear b1
  rcases h1 with ⟨er, h1, h2, h3, rfl⟩ | ⟨j', T2, x2, h1, rfl, h2⟩
  · have HR : Hid (r = .error er) := h1
    clear h1
    go_wp2_with fail
    go_ret2
    exact ⟨HB.out, Or.inl ⟨er, HR.out, h2, h3, rfl⟩⟩
  · have HR : Hid (r = .ok j') := h1
    have HS : Hid (S0 w1 (n + 1) j' (.iface T2 x2)) := h2
    clear h1 h2
    go_wp2_with fail
    go_ret2
    exact ⟨HB.out, Or.inr ⟨_, _, _, HR.out, rfl, HS.out⟩⟩
/-- what is done at the end of a way into which something is put -/
theorem put_end {N c0 c1 : Nat} {G : J N} {T' : TypeId} {x' : Value} {s : ByteArray} {w0 : World} (h0 : c0 < w0.heap.size) (h1 : c1 < w0.heap.size) (hc0 : w0.cell? ⟨c0, 0, none⟩ = some (.string s)) (hc1 : w0.cell? ⟨c1, 0, none⟩ = some (.iface T' x')) (hG : S0 w0 N G (.iface T' x')) (hd' : depth N G ≤ 10) (hs : s.size ≤ 8000000) (hE : Env w0) :
    EndOKP c0 c1 (putEnd (fun m => lift N m G) s.data.toList) w0 := by
  intro w hb m j T x hm hSt hr hn
  cases m with
  | zero => omega
  | succ m =>
    exact putS1_any c0 c1 m j (lift N m G) T T' x x' s w (by rw [hb.cell (p := ⟨c0, 0, none⟩) h0]; exact hc0) (by rw [hb.cell (p := ⟨c1, 0, none⟩) h1]; exact hc1) hSt hr hn (st_lift N m G _ (by omega) (hG.on hb)) hs (hE.below hb)
/-- what is told of what was made -/
def madeA (N : Nat) (r : Except Nat (J N)) : Array Value :=
  match r with
  | .error e => #[.string ByteArray.empty, .int .i64 e]
  | .ok R => toldE N R
/-- what is made by putting -/
def putR (N : Nat) (D : J N) (L : List Bs) (G : J N) : Except Nat (J N) := if L = [] then .ok G else changeP N D L.dropLast (putEnd (fun m => lift N m G) (L.getLast?.getD []))
def putA (N : Nat) (doc p v : Bs) : Array Value :=
  match rd20 N doc with
  | .error e => #[.string ByteArray.empty, .int .i64 e]
  | .ok D => match stepsE p with
    | .error e => #[.string ByteArray.empty, .int .i64 e]
    | .ok L => match rd20 N v with
      | .error e => #[.string ByteArray.empty, .int .i64 e]
      | .ok G => madeA N (putR N D L G)
theorem madeA_form (N : Nat) (r : Except Nat (J N)) : ∃ (s : ByteArray) (er : Nat), madeA N r = #[.string s, .int .i64 er] := by
  cases r with
  | error e => exact ⟨_, e, rfl⟩
  | ok R => exact toldE_form N R
set_option maxRecDepth 100000 in
set_option maxHeartbeats 1000000 in
theorem told_err (er : Nat) (w : World) (hne : er ≠ 0) : Calls Tryz.prog 17 #[.nilIface, .int .i64 er] w fun e w' => e = .returned (.tuple #[.string ByteArray.empty, .int .i64 er]) ∧ Below w.heap.size w w' := by
  have hbe : ((er : Int) != 0) = true := by rw [bne_iff_ne]; omega
  clear hne
  go_enter Tryz.func17, Tryz.ntmps17
  go_wp2_with fail
  go_ret2
  exact ⟨rfl, Below.refl _ _⟩
set_option maxRecDepth 100000 in
set_option maxHeartbeats 1000000 in
theorem told_ok (N : Nat) (R : J N) (T : TypeId) (x : Value) (w : World) (hS : S0 w N R (.iface T x)) (hF : Fine N R) (hT : Tab w.heap.size w) : Calls Tryz.prog 17 #[.iface T x, .int .i64 0] w fun e w' => e = .returned (.tuple (toldE N R)) ∧ Below w.heap.size w w' := by
  have HTl := tellJ_any N R (.iface T x) w hS hF hT
  obtain ⟨s, er, hform⟩ := toldE_form N R
  rw [hform] at HTl ⊢
  have HTl' : Hid (Calls Tryz.prog 22 #[.iface T x] w fun e w' => e = .returned (.tuple #[.string s, .int .i64 er]) ∧ Below w.heap.size w w') := HTl
  clear HTl hform hS hF hT
  go_enter Tryz.func17, Tryz.ntmps17
  go_wp2_with fail
  refine Calls.mono HTl'.out ?_
  rintro e w3 ⟨rfl, b3⟩
  have HB3 : Hid (Below w.heap.size w w3) := b3
  clear b3
  go_wp2_with fail
  go_ret2
  exact ⟨rfl, HB3.out⟩
theorem told_made (N : Nat) (r : Except Nat (J N)) (w0 : World) (v : Value) (er : Int) (w : World) (h : MadePost N r w0 (.returned (.tuple #[v, .int .i64 er])) w) (hF : ∀ R, r = .ok R → Fine N R) (hT : Tab w.heap.size w) : Calls Tryz.prog 17 #[v, .int .i64 er] w fun e w' => e = .returned (.tuple (madeA N r)) ∧ Below w.heap.size w w' := by
  obtain ⟨_, ⟨e', h1, h2, h3, h4⟩ | ⟨R, T, x, h1, h4, h5⟩⟩ := h
  · injection h4 with h4
    simp at h4
    obtain ⟨rfl, rfl⟩ := h4
    rw [h1]
    exact told_err e' w h2
  · injection h4 with h4
    simp at h4
    obtain ⟨rfl, rfl⟩ := h4
    rw [h1]
    exact told_ok N R T x w h5 (hF R h1) hT
set_option maxRecDepth 100000 in
set_option maxHeartbeats 4000000 in
theorem with_any (N : Nat) (hN : 20 ≤ N) (D G : J N) (L : List Bs) (T T2 : TypeId) (x x2 : Value) (q : Option Addr) (cap : Nat) (w : World) (tD : Told20 N D) (tG : Told20 N G) (hSt : S0 w N D (.iface T x)) (hG : S0 w N G (.iface T2 x2)) (hL : Strs w (.slice q L.length cap) L) (hlen : L.length ≤ 10) (hsz : ∀ s ∈ L, s.length ≤ 8000000) (hE : Env w) :
    Calls Tryz.prog 26 #[.iface T x, .slice q L.length cap, .iface T2 x2] w (MadePost N (putR N D L G) w) := by
  have HE : Hid (Env w) := hE
  have ha := heap_alloc_new w (.cells #[.iface T2 x2] 40)
  have hba : Below w.heap.size w (w.alloc (.cells #[.iface T2 x2] 40)) := (Below.refl _ _).alloc (Nat.le_refl _) _
  have HBa : Hid (Below w.heap.size w (w.alloc (.cells #[.iface T2 x2] 40))) := hba
  have HSa : Hid (S0 (w.alloc (.cells #[.iface T2 x2] 40)) N D (.iface T x)) := hSt.on hba
  have HLa : Hid (Strs (w.alloc (.cells #[.iface T2 x2] 40)) (.slice q L.length cap) L) := hL.below hba
  have HGa : Hid (S0 (w.alloc (.cells #[.iface T2 x2] 40)) N G (.iface T2 x2)) := hG.on hba
  have HAa : Hid ((w.alloc (.cells #[.iface T2 x2] 40)).heap[w.heap.size]? = some (.cells #[.iface T2 x2] 40 (0, 0))) := ha
  have hlt2 : w.heap.size < (w.alloc (.cells #[.iface T2 x2] 40)).heap.size := by simp
  have HTG : Hid (Told20 N G) := tG
  have HTD : Hid (Told20 N D) := tD
  have HLs : Hid (∀ s ∈ L, s.length ≤ 8000000) := hsz
  clear hSt hG hL hE ha hba tG tD hsz
  go_enter Tryz.func26, Tryz.ntmps26
  go_wp2_with fail
  generalize hwa : w.alloc (.cells #[.iface T2 x2] 40) = wa at *
  clear hwa
  by_cases hL0 : L = []
  · subst hL0
    refine (apart_nil q cap wa).mono ?_
    rintro e w3 ⟨rfl, b3⟩
    have hb3a : Below w3.heap.size w3 (w3.alloc (.cells #[.string ByteArray.empty] 9)) := (Below.refl _ _).alloc (Nat.le_refl _) _
    have hwaB : Below wa.heap.size wa (w3.alloc (.cells #[.string ByteArray.empty] 9)) := b3.trans (hb3a.mono b3.size)
    have HBb : Hid (Below w.heap.size w (w3.alloc (.cells #[.string ByteArray.empty] 9))) := HBa.out.trans (hwaB.mono HBa.out.size)
    have hcc : (w3.alloc (.cells #[.string ByteArray.empty] 9)).cell? ⟨w.heap.size, 0, none⟩ = some (.iface T2 x2) := by
      rw [hwaB.cell (p := ⟨w.heap.size, 0, none⟩) hlt2, cell_of_row _ _ _ _ _ _ HAa.out]
      rfl
    have HGb : Hid (S0 (w3.alloc (.cells #[.string ByteArray.empty] 9)) N G (.iface T2 x2)) := HGa.out.on hwaB
    clear b3 hb3a hwaB
    go_wp2_with fail
    go_ret2
    exact ⟨HBb.out, Or.inr ⟨G, T2, x2, rfl, rfl, HGb.out⟩⟩
  · obtain ⟨M, s, rfl⟩ : ∃ M s, L = M ++ [s] := ⟨L.dropLast, L.getLast hL0, (List.dropLast_concat_getLast hL0).symm⟩
    have hRr : putR N D (M ++ [s]) G = changeP N D M (putEnd (fun m => lift N m G) s) := by
      unfold putR
      rw [if_neg (by simp), List.dropLast_concat]
      simp
    have HRr : Hid (putR N D (M ++ [s]) G = changeP N D M (putEnd (fun m => lift N m G) s)) := hRr
    have hMl : M.length ≤ 9 := by simp at hlen; omega
    have hzs : (⟨s.toArray⟩ : ByteArray).size ≤ 8000000 := by rw [size_of]; exact HLs.out s (by simp)
    have hsd : (⟨s.toArray⟩ : ByteArray).data.toList = s := by simp
    refine (apart_some M s q cap wa HLa.out (by omega)).mono ?_
    rintro e w3 ⟨rfl, b3, hM3⟩
    have hb3a : Below w3.heap.size w3 (w3.alloc (.cells #[.string ⟨s.toArray⟩] 9)) := (Below.refl _ _).alloc (Nat.le_refl _) _
    have hwaB : Below wa.heap.size wa (w3.alloc (.cells #[.string ⟨s.toArray⟩] 9)) := b3.trans (hb3a.mono b3.size)
    have HBb : Hid (Below w.heap.size w (w3.alloc (.cells #[.string ⟨s.toArray⟩] 9))) := HBa.out.trans (hwaB.mono HBa.out.size)
    have hc1 : (w3.alloc (.cells #[.string ⟨s.toArray⟩] 9)).cell? ⟨w.heap.size, 0, none⟩ = some (.iface T2 x2) := by
      rw [hwaB.cell (p := ⟨w.heap.size, 0, none⟩) hlt2, cell_of_row _ _ _ _ _ _ HAa.out]
      rfl
    have hc0 : (w3.alloc (.cells #[.string ⟨s.toArray⟩] 9)).cell? ⟨w3.heap.size, 0, none⟩ = some (.string ⟨s.toArray⟩) := by
      rw [cell_of_row _ _ _ _ _ _ (heap_alloc_new w3 _)]
      rfl
    have he := put_end (N := N) (c0 := w3.heap.size) (c1 := w.heap.size) (G := G) (by simp) (by have := hwaB.size; omega) hc0 hc1 (HGa.out.on hwaB) HTG.out.depth hzs (HE.out.below HBb.out)
    rw [hsd] at he
    have HCh' : Hid (Calls Tryz.prog 35 #[.iface T x, .slice q M.length cap, .func (.func 43) #[] #[.pointer (some ⟨w3.heap.size, 0, none⟩), .pointer (some ⟨w.heap.size, 0, none⟩)]] (w3.alloc (.cells #[.string ⟨s.toArray⟩] 9)) (MadePost N (changeP N D M (putEnd (fun m => lift N m G) s)) (w3.alloc (.cells #[.string ⟨s.toArray⟩] 9)))) := changeP_ok w3.heap.size w.heap.size (putEnd (fun m => lift N m G) s) M N D T x (.slice q M.length cap) (w3.alloc (.cells #[.string ⟨s.toArray⟩] 9)) (by omega) (HSa.out.on hwaB) (rise_of_good _ _ HTD.out.good) (by have := HTD.out.nodes; omega) (hM3.below hb3a) (fun t ht => HLs.out t (by simp [ht])) (HE.out.below HBb.out) he
    clear b3 hb3a hwaB he hc0 hc1 hM3 hRr hsd hzs hL0
    generalize changeP N D M (putEnd (fun m => lift N m G) s) = r at *
    go_wp2_with fail
    generalize w3.alloc (.cells #[.string ⟨s.toArray⟩] 9) = wb at *
    refine Calls.mono HCh'.out ?_
    rintro e w4 ⟨b4, h4⟩
    have HB4 : Hid (Below w.heap.size w w4) := HBb.out.trans (b4.mono HBb.out.size)
    clear b4
    rcases h4 with ⟨er, h1, h2, h3, rfl⟩ | ⟨R, T3, x3, h1, rfl, h2⟩
    · have HR : Hid (r = .error er) := h1
      clear h1
      go_wp2_with fail
      go_ret2
      exact ⟨HB4.out, Or.inl ⟨er, HRr.out.trans HR.out, h2, h3, rfl⟩⟩
    · have HR : Hid (r = .ok R) := h1
      have HS : Hid (S0 w4 N R (.iface T3 x3)) := h2
      clear h1 h2
      go_wp2_with fail
      go_ret2
      exact ⟨HB4.out, Or.inr ⟨R, T3, x3, HRr.out.trans HR.out, rfl, HS.out⟩⟩
set_option maxRecDepth 100000 in
set_option maxHeartbeats 4000000 in
theorem putTop_any (N : Nat) (hN : 20 ≤ N) (doc p v : ByteArray) (w : World) (hd' : doc.size ≤ 8000000) (hp : p.size ≤ 8000000) (hv : v.size ≤ 8000000) (hE : Env w) (hF : ∀ D L G R, rd20 N doc.data.toList = .ok D → stepsE p.data.toList = .ok L → rd20 N v.data.toList = .ok G → putR N D L G = .ok R → Fine N R) :
    Calls Tryz.prog 11 #[.string doc, .string p, .string v] w fun e w' => e = .returned (.tuple (putA N doc.data.toList p.data.toList v.data.toList)) ∧ Below w.heap.size w w' := by
  have HE : Hid (Env w) := hE
  have HF : Hid (∀ D L G R, rd20 N doc.data.toList = .ok D → stepsE p.data.toList = .ok L → rd20 N v.data.toList = .ok G → putR N D L G = .ok R → Fine N R) := hF
  obtain ⟨res, hres⟩ : ∃ res, putA N doc.data.toList p.data.toList v.data.toList = res := ⟨_, rfl⟩
  have HG : Hid (putA N doc.data.toList p.data.toList v.data.toList = res) := hres
  rw [hres]
  have hpl : p.data.toList.length = p.size := by simp
  clear hE hres hF
  go_enter Tryz.func11, Tryz.ntmps11
  go_wp2_with fail
  refine (readDoc_any N hN doc p w hd' hp HE.out).mono ?_
  rintro e w1 ⟨b1, h1⟩
  have HB1 : Hid (Below w.heap.size w w1) := b1
  clear b1
  rcases h1 with ⟨er, h2, h3, h4, rfl⟩ | ⟨D, er, h2, h3, h4, h5, rfl⟩ | ⟨D, L, T, x, q, cap, h2, h3, rfl, h4, h5⟩
  · have HR : Hid (res = #[.string ByteArray.empty, .int .i64 er]) := by
      show res = _
      rw [← HG.out, putA, h2]
    have hbe : ((er : Int) != 0) = true := by rw [bne_iff_ne]; omega
    clear h2
    go_wp2_with fail
    go_ret2
    exact ⟨by rw [HR.out]; rfl, HB1.out⟩
  · have HR : Hid (res = #[.string ByteArray.empty, .int .i64 er]) := by
      show res = _
      rw [← HG.out, putA, h2]
      simp only [h3]
    have hbe : ((er : Int) != 0) = true := by rw [bne_iff_ne]; omega
    clear h2 h3
    go_wp2_with fail
    go_ret2
    exact ⟨by rw [HR.out]; rfl, HB1.out⟩
  · have HR2 : Hid (rd20 N doc.data.toList = .ok D) := h2
    have HR3 : Hid (stepsE p.data.toList = .ok L) := h3
    have HS1 : Hid (S0 w1 N D (.iface T x)) := h4
    have HL1 : Hid (Strs w1 (.slice q L.length cap) L) := h5
    have hsum := steps_sum h3
    have hlen := (join_steps h3).2
    have HLs : Hid (∀ s ∈ L, s.length ≤ 8000000) := fun s hs => by
      obtain ⟨i, hi, rfl⟩ := List.getElem_of_mem hs
      have := len_le_sum L i hi
      omega
    clear h2 h3 h4 h5 hsum
    go_wp2_with fail
    refine (read20_any N hN v w1 hv).mono ?_
    rintro e w2 ⟨b2, h2⟩
    have HB2 : Hid (Below w.heap.size w w2) := HB1.out.trans (b2.mono HB1.out.size)
    have HS2 : Hid (S0 w2 N D (.iface T x)) := HS1.out.on b2
    have HL2 : Hid (Strs w2 (.slice q L.length cap) L) := HL1.out.below b2
    clear b2
    rcases h2 with ⟨er, h3, h4, h5, rfl⟩ | ⟨G, T2, x2, h3, rfl, h4⟩
    · have HR : Hid (res = #[.string ByteArray.empty, .int .i64 er]) := by
        show res = _
        rw [← HG.out, putA, HR2.out]
        simp only [HR3.out, h3]
      have hbe : ((er : Int) != 0) = true := by rw [bne_iff_ne]; omega
      clear h3
      go_wp2_with fail
      go_ret2
      exact ⟨by rw [HR.out]; rfl, HB2.out⟩
    · have HR4 : Hid (rd20 N v.data.toList = .ok G) := h3
      have hTG := rd20_told hN h3
      have HTG : Hid (Told20 N G) := hTG
      have HR : Hid (res = madeA N (putR N D L G)) := by
        show res = _
        rw [← HG.out, putA, HR2.out]
        simp only [HR3.out, h3]
      have HW : Hid (Calls Tryz.prog 26 #[.iface T x, .slice q L.length cap, .iface T2 x2] w2 (MadePost N (putR N D L G) w2)) := with_any N hN D G L T T2 x x2 q cap w2 (rd20_told hN HR2.out) hTG HS2.out h4 HL2.out hlen HLs.out (HE.out.below HB2.out)
      have HFr : Hid (∀ R, putR N D L G = .ok R → Fine N R) := fun R h => HF.out D L G R HR2.out HR3.out HR4.out h
      clear h3 h4 hTG
      obtain ⟨sx, ex, hform⟩ := madeA_form N (putR N D L G)
      have HX : Hid (res = #[.string sx, .int .i64 ex]) := HR.out.trans hform
      have HTo : Hid (∀ v ev w3, MadePost N (putR N D L G) w2 (.returned (.tuple #[v, .int .i64 ev])) w3 → Tab w3.heap.size w3 → Calls Tryz.prog 17 #[v, .int .i64 ev] w3 fun e w' => e = .returned (.tuple #[.string sx, .int .i64 ex]) ∧ Below w3.heap.size w3 w') := fun v ev w3 h hT => by
        have h9 := told_made N (putR N D L G) w2 v ev w3 h HFr.out hT
        rw [hform] at h9
        exact h9
      clear hform
      generalize putR N D L G = r at *
      go_wp2_with fail
      refine Calls.mono HW.out ?_
      rintro e w3 hm
      have HB3 : Hid (Below w.heap.size w w3) := HB2.out.trans (hm.1.mono HB2.out.size)
      obtain ⟨v3, e3, rfl⟩ : ∃ (v3 : Value) (e3 : Int), e = .returned (.tuple #[v3, .int .i64 e3]) := by
        rcases hm.2 with ⟨er, _, _, _, h⟩ | ⟨R, T3, x3, _, h, _⟩
        · exact ⟨_, _, h⟩
        · exact ⟨_, _, h⟩
      have HTd : Hid (Calls Tryz.prog 17 #[v3, .int .i64 e3] w3 fun e w' => e = .returned (.tuple #[.string sx, .int .i64 ex]) ∧ Below w3.heap.size w3 w') := HTo.out v3 e3 w3 hm (HE.out.below HB3.out).tab
      clear hm
      go_wp2_with fail
      refine Calls.mono HTd.out ?_
      rintro e w4 ⟨rfl, b4⟩
      have HB4 : Hid (Below w.heap.size w w4) := HB3.out.trans (b4.mono HB3.out.size)
      clear b4
      go_wp2_with fail
      go_ret2
      exact ⟨by rw [HX.out]; rfl, HB4.out⟩
end Go.Proofs.YtaogilpkeeigoabGreatDoor
/- Plain facts for the laws of pointers: what is there, put there, changes nothing. -/
namespace Go.Proofs.YtaogilpkeeigoabGreatDoor
open Go.RowKit
set_option linter.unusedVariables false
set_option linter.unusedSimpArgs false
theorem putR_there {N : Nat} {D c G : J N} {L : List Bs} (hr : Rise N D) (h : getP N D L = some c) : putR N D L G = .ok (setP N D L (fun m => lift N m G)) := by
  unfold putR
  by_cases hL : L = []
  · rw [if_pos hL]
    subst hL
    have e : setP N D [] (fun m => lift N m G) = lift N N G := by cases N <;> rfl
    rw [e, lift_self]
  · rw [if_neg hL]
    obtain ⟨M, s, rfl⟩ : ∃ M s, L = M ++ [s] := ⟨L.dropLast, L.getLast hL, (List.dropLast_concat_getLast hL).symm⟩
    rw [List.dropLast_concat]
    have e : (M ++ [s]).getLast?.getD [] = s := by simp
    rw [e]
    exact change_put _ s M N D c hr h
theorem putR_same {N : Nat} {D c : J N} {L : List Bs} (hr : Rise N D) (h : getP N D L = some c) : putR N D L c = .ok D := by
  rw [putR_there hr h, set_get L N D c _ hr h]
  intro m c0 hm e
  show lift N m c = c0
  rw [← e, lift_lift _ _ _ _ (Nat.le_trans (depth_bound m c0) hm), lift_self]
theorem read_one : read [49] = .ok (leaf 10 (some (Sum.inr (Sum.inl 1)))) := by kernel_rfl
theorem steps_a : stepsE [47, 97] = .ok [[97]] := by kernel_rfl
theorem getP_leaf {N : Nat} (l : Leaf) (s : Bs) (r : List Bs) : getP N (leaf N l) (s :: r) = none := by
  cases N with
  | zero => rfl
  | succ n => rfl
theorem getA_one {N : Nat} : getA N [49] [47, 97] = #[.string ByteArray.empty, .int .i64 7] := by
  unfold getA
  rw [rd20_ok read_one, lift_leaf]
  simp only [steps_a, getP_leaf]
/-- what Get answers, in one form -/
theorem getA_cases (N : Nat) (hN : 20 ≤ N) (doc p : Bs) : (∃ er : Nat, er ≠ 0 ∧ er < 100 ∧ getA N doc p = #[.string ByteArray.empty, .int .i64 er]) ∨ ∃ D L c, rd20 N doc = .ok D ∧ stepsE p = .ok L ∧ getP N D L = some c ∧ Told20 N c ∧ getA N doc p = #[.string ⟨(tell N c).toArray⟩, .int .i64 0] := by
  unfold getA
  cases hd : rd20 N doc with
  | error e =>
    refine Or.inl ⟨e, ?_, ?_, rfl⟩
    · unfold rd20 at hd
      cases hr : read doc with
      | error e' =>
        rw [hr] at hd
        cases hd
        exact read_err hr
      | ok j => rw [hr] at hd; cases hd
    · unfold rd20 at hd
      cases hr : read doc with
      | error e' =>
        rw [hr] at hd
        cases hd
        rcases read_isErr hr with rfl | rfl | rfl | rfl <;> decide
      | ok j => rw [hr] at hd; cases hd
  | ok D =>
    simp only []
    cases hs : stepsE p with
    | error e =>
      refine Or.inl ⟨e, ?_, ?_, rfl⟩
      · unfold stepsE at hs
        split at hs
        · cases hs
        · split at hs
          · cases hs; decide
          · split at hs
            · cases hs; decide
            · cases hs
      · unfold stepsE at hs
        split at hs
        · cases hs
        · split at hs
          · cases hs; decide
          · split at hs
            · cases hs; decide
            · cases hs
    | ok L =>
      simp only []
      cases hg : getP N D L with
      | none => exact Or.inl ⟨7, by decide, by decide, rfl⟩
      | some c =>
        have hT := (rd20_told hN hd).get hg
        exact Or.inr ⟨D, L, c, rfl, rfl, hg, hT, hT.told⟩
theorem rd20_read {N : Nat} {doc : Bs} {D : J N} (hN : 20 ≤ N) (h : rd20 N doc = .ok D) : ∃ j, read doc = .ok j ∧ tell 10 j = tell N D := by
  unfold rd20 at h
  cases hr : read doc with
  | error e => rw [hr] at h; cases h
  | ok j =>
    rw [hr] at h
    have e : lift 10 N j = D := by
      have h' : Except.ok (lift 10 N j) = (Except.ok D : Except Nat (J N)) := h
      exact Except.ok.inj h'
    subst e
    exact ⟨j, rfl, (lift_said 10 N j (Nat.le_trans (depth_bound 10 j) (by omega))).1.symm⟩
end Go.Proofs.YtaogilpkeeigoabGreatDoor
/- The table of powers of ten out of what is laid; the laws' own canon at every text. -/
namespace Go.Proofs.YtaogilpkeeigoabGreatDoor
open Go.RowKit
set_option linter.unusedVariables false
set_option linter.unusedSimpArgs false
/-- the table stands third on the list -/
theorem tabIs_of_third {P : Program} {W : World} {name : String} {k : IntKind} {zs : List Int} {x y : String × DataW Unit} {rest : List (String × DataW Unit)} {g : Nat} {t e : TypeId} {n : Nat}
    (hg : P.globalNamed name = some g) (hty : (P.globals[g]?).map (·.type) = some t) (ht : P.underlying t = some (.array n e)) (he : P.underlying e = some (.int k)) (hce : P.cellsOf e = 1) (hct : P.cellsOf t = n)
    (h : laidMet P (x :: y :: (name, Lib.tabData k zs) :: rest) W) : Lib.TabIs P W name k zs := by
  obtain ⟨ps, ⟨_, _, _, _, _, _, _, _, _, _, ⟨_, _, _, _, _, _, _, _, _, _, ⟨g', t', cs, fuel, p, q, hg', ht', hvar, hd, _, _⟩, _⟩, _⟩, _⟩ := h
  obtain rfl := Option.some.inj (hg.symm.trans hg')
  obtain rfl := Option.some.inj (hty.symm.trans ht')
  unfold Lib.TabIs
  rw [hvar, ← Lib.cells_of_tab ht he hce hct hd]
theorem tab_of_laid {x y : String × DataW Unit} {rest : List (String × DataW Unit)} {W : World} (hn : ((x :: y :: ("internal/strconv.uint64pow10", Lib.tabData .u64 Lib.pow10Tab) :: rest).all fun x => x.2.handleName?.isNone) = true)
    (h : laidMetH Tryz.prog (x :: y :: ("internal/strconv.uint64pow10", Lib.tabData .u64 Lib.pow10Tab) :: rest) W) : Tab W.heap.size W := by
  rw [Go.MakeChecks.laidMetH_plain _ _ _ hn] at h
  exact Lib.tabBelow_of_tabIs (tabIs_of_third (P := Tryz.prog) (g := 5) (t := 207) (e := 128) (n := 20) (by kernel_rfl) (by kernel_rfl) Tryz.underlying207 Tryz.underlying128 (by kernel_rfl) (by kernel_rfl) h)
theorem keepCanon_any (t : ByteArray) (w : World) (hs : t.size ≤ maxLen) (hT : Tab w.heap.size w) :
    Calls Tryz.prog 12 #[.string t] w fun e w' => (match read t.data.toList with
      | .error _ => e = .returned (.tuple #[.string ByteArray.empty, .bool false])
      | .ok j => e = .returned (.tuple #[.string ⟨(tell 10 j).toArray⟩, .bool true])) ∧ Below w.heap.size w w' := by
  have hC := canon_any t w hs hT
  cases hr : read t.data.toList with
  | error er =>
    have HC : Hid (Calls Tryz.prog 15 #[.string t] w fun e w' => e = .returned (.tuple #[.string ByteArray.empty, .int .i64 er]) ∧ Below w.heap.size w w') := by
      refine hC.mono ?_
      rintro e w1 ⟨rfl, b1⟩
      exact ⟨by rw [canonE, hr], b1⟩
    have her : er ≠ 0 := read_err hr
    have hbe : ((er : Int) == 0) = false := by rw [beq_eq_false_iff_ne]; omega
    clear hC hr hT
    go_enter Tryz.func12, Tryz.ntmps12
    go_wp2_with fail
    refine Calls.mono HC.out ?_
    rintro e w1 ⟨rfl, b1⟩
    have HB1 : Hid (Below w.heap.size w w1) := b1
    clear b1
    go_wp2_with fail
    go_ret2
    exact ⟨rfl, HB1.out⟩
  | ok j =>
    have HC : Hid (Calls Tryz.prog 15 #[.string t] w fun e w' => e = .returned (.tuple #[.string ⟨(tell 10 j).toArray⟩, .int .i64 0]) ∧ Below w.heap.size w w') := by
      refine hC.mono ?_
      rintro e w1 ⟨rfl, b1⟩
      exact ⟨by rw [canonE, hr], b1⟩
    clear hC hr hT
    simp only []
    generalize (⟨(tell 10 j).toArray⟩ : ByteArray) = tx at *
    go_enter Tryz.func12, Tryz.ntmps12
    go_wp2_with fail
    refine Calls.mono HC.out ?_
    rintro e w1 ⟨rfl, b1⟩
    have HB1 : Hid (Below w.heap.size w w1) := b1
    clear b1
    go_wp2_with fail
    go_ret2
    exact ⟨rfl, HB1.out⟩
end Go.Proofs.YtaogilpkeeigoabGreatDoor
/- Contracts over this translation of the calls of package json, at texts of which it is known what they are read as. -/
namespace Go.Proofs.YtaogilpkeeigoabGreatDoor
open Go.RowKit
set_option linter.unusedVariables false
set_option linter.unusedSimpArgs false
theorem ba_of {a : ByteArray} {x : Bs} (h : a.data.toList = x) : (⟨x.toArray⟩ : ByteArray) = a := by
  subst h
  cases a
  simp
/-- one call, from whatever was made since, answers this -/
def Says (w : World) (f : Nat) (args : Array Value) (v : Value) : Prop := ∀ w1, Below w.heap.size w w1 → Calls Tryz.prog f args w1 fun e w' => e = .returned v ∧ Below w1.heap.size w1 w'
theorem Says.mono {w : World} {f : Nat} {args : Array Value} {v u : Value} (h : Says w f args v) (e : v = u) : Says w f args u := e ▸ h
theorem canon_ok {t u : ByteArray} {x : Bs} {j : J 10} {w : World} (hT : Tab w.heap.size w) (hs : t.size ≤ maxLen) (hx : t.data.toList = x) (hr : read x = .ok j) (hu : u.data.toList = tell 10 j) :
    Says w 15 #[.string t] (.tuple #[.string u, .int .i64 0]) := by
  intro w1 hb
  have h := canon_any t w1 hs ((hT.below hb).mono hb.size)
  rw [hx] at h
  refine h.mono ?_
  rintro e w2 ⟨rfl, b2⟩
  refine ⟨?_, b2⟩
  rw [canonE, hr]
  simp only []
  rw [ba_of hu]
theorem canon_err {t : ByteArray} {x : Bs} {er : Nat} {w : World} (hT : Tab w.heap.size w) (hs : t.size ≤ maxLen) (hx : t.data.toList = x) (hr : read x = .error er) :
    Says w 15 #[.string t] (.tuple #[.string ByteArray.empty, .int .i64 er]) := by
  intro w1 hb
  have h := canon_any t w1 hs ((hT.below hb).mono hb.size)
  rw [hx] at h
  refine h.mono ?_
  rintro e w2 ⟨rfl, b2⟩
  refine ⟨?_, b2⟩
  rw [canonE, hr]
theorem keep_ok {t u : ByteArray} {x : Bs} {j : J 10} {w : World} (hT : Tab w.heap.size w) (hs : t.size ≤ maxLen) (hx : t.data.toList = x) (hr : read x = .ok j) (hu : u.data.toList = tell 10 j) :
    Says w 12 #[.string t] (.tuple #[.string u, .bool true]) := by
  intro w1 hb
  have h := keepCanon_any t w1 hs ((hT.below hb).mono hb.size)
  rw [hx, hr] at h
  simp only [] at h
  rw [ba_of hu] at h
  exact h
theorem keep_err {t : ByteArray} {x : Bs} {er : Nat} {w : World} (hT : Tab w.heap.size w) (hs : t.size ≤ maxLen) (hx : t.data.toList = x) (hr : read x = .error er) :
    Says w 12 #[.string t] (.tuple #[.string ByteArray.empty, .bool false]) := by
  intro w1 hb
  have h := keepCanon_any t w1 hs ((hT.below hb).mono hb.size)
  rw [hx, hr] at h
  exact h
end Go.Proofs.YtaogilpkeeigoabGreatDoor
/- Contracts over this translation of the calls of package ptr, at texts of which it is known what they are read as. -/
namespace Go.Proofs.YtaogilpkeeigoabGreatDoor
open Go.RowKit
set_option linter.unusedVariables false
set_option linter.unusedSimpArgs false
theorem get_says (N : Nat) (hN : 20 ≤ N) {doc p : ByteArray} {x y : Bs} {v : Array Value} {w : World} (hE : Env w) (hd : doc.size ≤ 8000000) (hp : p.size ≤ 8000000) (hx : doc.data.toList = x) (hy : p.data.toList = y) (hv : getA N x y = v) :
    Says w 8 #[.string doc, .string p] (.tuple v) := by
  intro w1 hb
  subst hx hy hv
  exact get_any N hN doc p w1 hd hp (hE.below hb)
theorem put_says (N : Nat) (hN : 20 ≤ N) {doc p v : ByteArray} {D G : J N} {L : List Bs} {w : World} (hE : Env w) (hd : doc.size ≤ 8000000) (hp : p.size ≤ 8000000) (hv : v.size ≤ 8000000) (h1 : rd20 N doc.data.toList = .ok D) (h2 : stepsE p.data.toList = .ok L) (h3 : rd20 N v.data.toList = .ok G) (hF : ∀ R, putR N D L G = .ok R → Fine N R) :
    Says w 11 #[.string doc, .string p, .string v] (.tuple (madeA N (putR N D L G))) := by
  intro w1 hb
  have e : putA N doc.data.toList p.data.toList v.data.toList = madeA N (putR N D L G) := by
    unfold putA
    rw [h1]
    simp only [h2, h3]
  rw [← e]
  refine putTop_any N hN doc p v w1 hd hp hv (hE.below hb) ?_
  intro D' L' G' R e1 e2 e3 e4
  rw [h1] at e1
  rw [h2] at e2
  rw [h3] at e3
  cases e1
  cases e2
  cases e3
  exact hF R e4
theorem one_says (N : Nat) (hN : 20 ≤ N) {w : World} (hE : Env w) : Says w 8 #[.string ⟨#[49]⟩, .string ⟨#[47, 97]⟩] (.tuple #[.string ByteArray.empty, .int .i64 7]) :=
  get_says N hN (x := [49]) (y := [47, 97]) hE (by show 1 ≤ _; omega) (by show 2 ≤ _; omega) rfl rfl getA_one
theorem size_arr (l : Bs) : (⟨l.toArray⟩ : ByteArray).size = l.length := by simp [ByteArray.size]
end Go.Proofs.YtaogilpkeeigoabGreatDoor
/- The library's two errors out of what is laid. -/
namespace Go.Proofs.YtaogilpkeeigoabGreatDoor
open Go.RowKit
set_option linter.unusedVariables false
set_option linter.unusedSimpArgs false
theorem iface_of_one {P : Program} {W : World} {name nm : String} {d : DataW Unit} {g : Nat} {t : TypeId} {ms : Array (String × TypeId)} (hg : P.globalNamed name = some g) (hty : (P.globals[g]?).map (·.type) = some t) (ht : P.underlying t = some (.interface ms))
    (h : laidMet P [(name, .iface nm d)] W) : g < W.heap.size ∧ ∃ u v, W.cell? ⟨g, 0, none⟩ = some (.iface u v) := by
  obtain ⟨ps, ⟨g', t', cs, fuel, p, q, hg', ht', hvar, hd, _, _⟩, _⟩ := h
  obtain rfl := Option.some.inj (hg.symm.trans hg')
  obtain rfl := Option.some.inj (hty.symm.trans ht')
  obtain ⟨fuel', u, v, hcs, _, _⟩ := iface_of_trod ht hd
  unfold World.var? at hvar
  rw [hg] at hvar
  simp only [Option.bind_some] at hvar
  cases hh : W.heap[g]? with
  | none => rw [hh] at hvar; cases hvar
  | some o =>
    rw [hh] at hvar
    cases o with
    | cells c ty fr =>
      simp only [Option.some.injEq] at hvar
      subst hvar
      refine ⟨(Array.getElem?_eq_some_iff.1 hh).1, u, v, ?_⟩
      rw [cell_of_row _ _ _ _ _ _ hh]
      have : c = #[.iface u v] := by
        apply Array.toList_inj.1
        rw [hcs]
      rw [this]
      rfl
    | _ => cases hvar
theorem errs_of {l : List (String × DataW Unit)} {n1 n2 : String} {d1 d2 : DataW Unit} {W : World} (hn : (l.all fun x => x.2.handleName?.isNone) = true) (h1 : l.filter (fun x => x.1 == "strconv.ErrSyntax") = [("strconv.ErrSyntax", .iface n1 d1)]) (h2 : l.filter (fun x => x.1 == "strconv.ErrRange") = [("strconv.ErrRange", .iface n2 d2)])
    (h : laidMetH Tryz.prog l W) : Errs W := by
  rw [Go.MakeChecks.laidMetH_plain _ _ _ hn] at h
  have a := h.filter (fun x => x.1 == "strconv.ErrSyntax")
  have b := h.filter (fun x => x.1 == "strconv.ErrRange")
  rw [h1] at a
  rw [h2] at b
  obtain ⟨a1, u, v, a2⟩ := iface_of_one (P := Tryz.prog) (g := 1) (t := 141) (by kernel_rfl) (by kernel_rfl) Tryz.underlying141 a
  obtain ⟨b1, u', v', b2⟩ := iface_of_one (P := Tryz.prog) (g := 2) (t := 141) (by kernel_rfl) (by kernel_rfl) Tryz.underlying141 b
  exact ⟨_, _, ⟨a1, a2, Or.inr ⟨_, _, rfl⟩⟩, b1, b2, Or.inr ⟨_, _, rfl⟩⟩
end Go.Proofs.YtaogilpkeeigoabGreatDoor
/- Plain facts: how great is what has another value somewhere; where one pointer begins another. -/
namespace Go.Proofs.YtaogilpkeeigoabGreatDoor
set_option linter.unusedVariables false
set_option linter.unusedSimpArgs false
theorem commas_lenE : ∀ (ts : List Bs), ts ≠ [] → (commas ts).length + 1 = (ts.map List.length).sum + ts.length
  | [], h => absurd rfl h
  | [x], _ => by simp [commas]
  | x :: y :: r, _ => by
    have := commas_lenE (y :: r) (by simp)
    simp only [commas, List.length_append, List.length_cons, List.map_cons, List.sum_cons] at this ⊢
    omega
theorem commas_swap (A C : List Bs) (t u : Bs) : (commas (A ++ t :: C)).length + u.length = (commas (A ++ u :: C)).length + t.length := by
  have h1 := commas_lenE (A ++ t :: C) (by simp)
  have h2 := commas_lenE (A ++ u :: C) (by simp)
  simp only [List.map_append, List.map_cons, List.sum_append, List.sum_cons, List.length_append, List.length_cons] at h1 h2
  omega
theorem set_mid {α : Type} {xs : List α} {i : Nat} {c d : α} (h : xs[i]? = some c) : ∃ A C, xs = A ++ c :: C ∧ xs.set i d = A ++ d :: C := by
  obtain ⟨hi, rfl⟩ := List.getElem?_eq_some_iff.1 h
  refine ⟨xs.take i, xs.drop (i + 1), ?_, ?_⟩
  · rw [List.getElem_cons_drop]; simp
  · exact List.set_eq_take_append_cons_drop.trans (if_pos hi)
theorem size_repl {n : Nat} {j : J (n + 1)} {s : Bs} {c d : J n} (hr : Rise (n + 1) j) (h : childP j s = some c) :
    nodes (n + 1) (replP j s d) + nodes n c = nodes (n + 1) j + nodes n d ∧ (tell (n + 1) (replP j s d)).length + (tell n c).length = (tell (n + 1) j).length + (tell n d).length := by
  match j, hr, h with
  | Sum.inr (Sum.inl xs), hr, h =>
    obtain ⟨i, hi, hx⟩ := Option.bind_eq_some_iff.1 (show ((placeP s).bind fun i => xs[i]?) = some c from h)
    obtain ⟨A, C, h1, h2⟩ := set_mid (d := d) hx
    have e : replP (Sum.inr (Sum.inl xs)) s d = (Sum.inr (Sum.inl (A ++ d :: C)) : J (n + 1)) := by
      unfold replP
      rw [hi]
      simp only []
      rw [h2]
    rw [e, h1]
    have hs := commas_swap (A.map (tell n)) (C.map (tell n)) (tell n c) (tell n d)
    refine ⟨?_, ?_⟩
    · show 1 + ((A ++ d :: C).map (nodes n)).sum + _ = 1 + ((A ++ c :: C).map (nodes n)).sum + _
      simp only [List.map_append, List.map_cons, List.sum_append, List.sum_cons]
      omega
    · show (91 :: (commas ((A ++ d :: C).map (tell n)) ++ [93])).length + _ = (91 :: (commas ((A ++ c :: C).map (tell n)) ++ [93])).length + _
      simp only [List.map_append, List.map_cons, List.length_cons, List.length_append, List.length_nil]
      omega
  | Sum.inr (Sum.inr fs), hr, h =>
    obtain ⟨A, C, h1, h2, h3⟩ := fieldAt_split hr.1 h
    subst h1
    have e : replP (Sum.inr (Sum.inr (A ++ (s, c) :: C))) s d = (Sum.inr (Sum.inr (A ++ (s, d) :: C)) : J (n + 1)) := by
      show Sum.inr (Sum.inr (repl _ s d)) = _
      rw [repl_mid h2 h3]
    rw [e]
    have hs := commas_swap (A.map fun f => quote f.1 ++ 58 :: tell n f.2) (C.map fun f => quote f.1 ++ 58 :: tell n f.2) (quote s ++ 58 :: tell n c) (quote s ++ 58 :: tell n d)
    refine ⟨?_, ?_⟩
    · show 1 + ((A ++ (s, d) :: C).map fun f => nodes n f.2).sum + _ = 1 + ((A ++ (s, c) :: C).map fun f => nodes n f.2).sum + _
      simp only [List.map_append, List.map_cons, List.sum_append, List.sum_cons]
      omega
    · show (123 :: (commas ((A ++ (s, d) :: C).map fun f => quote f.1 ++ 58 :: tell n f.2) ++ [125])).length + _ = (123 :: (commas ((A ++ (s, c) :: C).map fun f => quote f.1 ++ 58 :: tell n f.2) ++ [125])).length + _
      simp only [List.map_append, List.map_cons, List.length_cons, List.length_append, List.length_nil] at hs ⊢
      omega
theorem size_set (it : (m : Nat) → J m) (a b : Nat) : ∀ (l : List Bs) (n : Nat) (j : J n), Rise n j → (∀ m, n ≤ m + l.length → m ≤ n → nodes m (it m) ≤ a ∧ (tell m (it m)).length ≤ b) → nodes n (setP n j l it) ≤ nodes n j + a ∧ (tell n (setP n j l it)).length ≤ (tell n j).length + b
  | [], n, j, hr, h => by
    have := h n (by simp) (Nat.le_refl _)
    have e : setP n j [] it = it n := by cases n <;> rfl
    rw [e]
    omega
  | s :: r, 0, j, hr, h => ⟨Nat.le_add_right _ _, Nat.le_add_right _ _⟩
  | s :: r, n + 1, j, hr, h => by
    show nodes (n + 1) (match childP j s with
      | none => j
      | some c => replP j s (setP n c r it)) ≤ _ ∧ (tell (n + 1) (match childP j s with
      | none => j
      | some c => replP j s (setP n c r it))).length ≤ _
    cases hc : childP j s with
    | none => exact ⟨Nat.le_add_right _ _, Nat.le_add_right _ _⟩
    | some c =>
      simp only []
      have ih := size_set it a b r n c (rise_child hr hc) (fun m h1 h2 => h m (by simp; omega) (by omega))
      have := size_repl (d := setP n c r it) hr hc
      omega
/-- what is put where something is may be told -/
theorem fine_set {N : Nat} (hN : 20 ≤ N) (hM : N ≤ 100000) {D G : J N} {L : List Bs} (hL : L.length ≤ 10) (hD : Told20 N D) (hG : Told20 N G) : Good N (setP N D L (fun m => lift N m G)) ∧ Fine N (setP N D L (fun m => lift N m G)) := by
  have hg := good_set (fun m => lift N m G) (fun m => good_lift N m G hG.good) L N D hD.good
  have hz := size_set (fun m => lift N m G) (nodes N G) (tell N G).length L N D (rise_of_good _ _ hD.good) (fun m h1 h2 => by
    have hs := lift_said N m G (by have := hG.depth; omega)
    show nodes m (lift N m G) ≤ _ ∧ (tell m (lift N m G)).length ≤ _
    rw [hs.1, hs.2.1]
    exact ⟨Nat.le_refl _, Nat.le_refl _⟩)
  have h1 := hD.nodes
  have h2 := hD.len
  have h3 := hG.nodes
  have h4 := hG.len
  have h5 := depth_bound N (setP N D L (fun m => lift N m G))
  exact ⟨hg, fit_of_good _ _ hg, by omega, by omega, by omega⟩
/-- what was told without error is within the limits -/
theorem told_zero {N : Nat} {R : J N} {s : ByteArray} (hg : Good N R) (h : toldE N R = #[.string s, .int .i64 0]) : Told20 N R ∧ s = ⟨(tell N R).toArray⟩ := by
  unfold toldE at h
  split at h
  · simp at h
  · split at h
    · simp at h
    · split at h
      · simp at h
      · simp at h
        exact ⟨⟨hg, by omega, by omega, by omega⟩, h.symm⟩
theorem join_app : ∀ (a b : List Bs), joinB (a ++ b) = joinB a ++ joinB b
  | [], b => rfl
  | s :: r, b => by
    show 47 :: (written s ++ joinB (r ++ b)) = 47 :: (written s ++ joinB r) ++ joinB b
    rw [join_app r b]
    simp
theorem begins_prefix {p q : Bs} {a b : List Bs} (hp : stepsE p = .ok a) (hq : stepsE q = .ok b) (h : begins a b) : p = q ∨ Lib.hasPrefix q (p ++ [47]) = true := by
  obtain ⟨r, rfl⟩ := h
  cases r with
  | nil =>
    rw [List.append_nil] at hq
    exact Or.inl (steps_inj hp hq)
  | cons t r =>
    refine Or.inr ?_
    have h1 := (join_steps hp).1
    have h2 := (join_steps hq).1
    rw [join_app, h1] at h2
    rw [← h2]
    unfold Lib.hasPrefix
    rw [List.isPrefixOf_iff_prefix]
    exact ⟨written t ++ joinB r, by simp [joinB]⟩
end Go.Proofs.YtaogilpkeeigoabGreatDoor
