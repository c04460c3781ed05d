/- Several texts in one: Order, DocGood, DocLift, PtrPlain, GPlain. -/
import Derived.Test.YthdgfehfoidnbabGreatDoorM00
import Derived.Test.YthdgfehfoidnbabGreatDoorM02
import Derived.Lib.AtoiAllCases
import Derived.WalkKit
import Derived.Deep.QuietTactic
/- Plain facts on the order of names, and on fields that rise by their names. -/
namespace Go.Proofs.YthdgfehfoidnbabGreatDoor
set_option linter.unusedVariables false
set_option linter.unusedSimpArgs false
theorem cmp_self : ∀ a : Bs, Lib.compareBytes a a = 0
  | [] => rfl
  | x :: a => by
    rw [Lib.compareBytes, if_neg (UInt8.lt_irrefl x), if_neg (UInt8.lt_irrefl x)]
    exact cmp_self a
theorem cmp_vals : ∀ a b : Bs, Lib.compareBytes a b = 0 ∨ Lib.compareBytes a b = 1 ∨ Lib.compareBytes a b = -1
  | [], [] => Or.inl rfl
  | [], _ :: _ => Or.inr (Or.inr rfl)
  | _ :: _, [] => Or.inr (Or.inl rfl)
  | x :: a, y :: b => by
    rw [Lib.compareBytes]
    split
    · exact Or.inr (Or.inr rfl)
    · split
      · exact Or.inr (Or.inl rfl)
      · exact cmp_vals a b
theorem cmp_eq : ∀ a b : Bs, Lib.compareBytes a b = 0 → a = b
  | [], [], _ => rfl
  | [], _ :: _, h => by rw [Lib.compareBytes] at h; omega
  | _ :: _, [], h => by rw [Lib.compareBytes] at h; omega
  | x :: a, y :: b, h => by
    rw [Lib.compareBytes] at h
    split at h
    · omega
    · split at h
      · omega
      · rename_i h1 h2
        have e : x = y := UInt8.toNat_inj.1 (by rw [UInt8.lt_iff_toNat_lt] at h1 h2; omega)
        rw [e, cmp_eq a b h]
theorem cmp_swap : ∀ a b : Bs, Lib.compareBytes b a = - Lib.compareBytes a b
  | [], [] => rfl
  | [], _ :: _ => rfl
  | _ :: _, [] => rfl
  | x :: a, y :: b => by
    rw [Lib.compareBytes, Lib.compareBytes]
    by_cases h1 : x < y
    · have h2 : ¬ y < x := by rw [UInt8.lt_iff_toNat_lt] at h1 ⊢; omega
      simp [h1, h2]
    · by_cases h2 : y < x
      · simp [h1, h2]
      · simp [h1, h2]
        exact cmp_swap a b
theorem cmp_trans : ∀ a b c : Bs, Lib.compareBytes a b < 0 → Lib.compareBytes b c < 0 → Lib.compareBytes a c < 0
  | [], [], _, h, _ => by rw [Lib.compareBytes] at h; omega
  | [], _ :: _, [], _, h => by rw [Lib.compareBytes] at h; omega
  | [], _ :: _, _ :: _, _, _ => by rw [Lib.compareBytes]; omega
  | _ :: _, [], _, h, _ => by rw [Lib.compareBytes] at h; omega
  | _ :: _, _ :: _, [], _, h => by rw [Lib.compareBytes] at h; omega
  | x :: a, y :: b, z :: c, h, g => by
    rw [Lib.compareBytes] at h g ⊢
    simp only [UInt8.lt_iff_toNat_lt] at h g ⊢
    by_cases h1 : x.toNat < y.toNat
    · by_cases g1 : y.toNat < z.toNat
      · rw [if_pos (by omega)]; omega
      · rw [if_neg g1] at g
        by_cases g2 : z.toNat < y.toNat
        · rw [if_pos g2] at g; omega
        · rw [if_pos (by omega)]; omega
    · rw [if_neg h1] at h
      by_cases h2 : y.toNat < x.toNat
      · rw [if_pos h2] at h; omega
      · rw [if_neg h2] at h
        by_cases g1 : y.toNat < z.toNat
        · rw [if_pos (by omega)]; omega
        · rw [if_neg g1] at g
          by_cases g2 : z.toNat < y.toNat
          · rw [if_pos g2] at g; omega
          · rw [if_neg g2] at g
            rw [if_neg (by omega), if_neg (by omega)]
            exact cmp_trans a b c h g
theorem less_iff (a b : Bs) : less a b = true ↔ Lib.compareBytes a b < 0 := by simp [less]
/-- the fields rise by their names -/
def Rising {α : Type} (fs : List (Bs × α)) : Prop := fs.Pairwise fun f g => less f.1 g.1 = true
/-- where the field of a name is, or would be -/
def placeOfName {α : Type} (fs : List (Bs × α)) (nm : Bs) : Nat := (fs.takeWhile fun f => less f.1 nm).length
theorem place_le {α : Type} (fs : List (Bs × α)) (nm : Bs) : placeOfName fs nm ≤ fs.length := (List.takeWhile_sublist _).length_le
theorem place_of {α : Type} : ∀ (fs : List (Bs × α)) (nm : Bs) (i : Nat), i ≤ fs.length → (∀ (x : Nat) (f : Bs × α), x < i → fs[x]? = some f → less f.1 nm = true) → (∀ (f : Bs × α), fs[i]? = some f → less f.1 nm = false) → placeOfName fs nm = i
  | [], nm, i, hi, _, _ => by simp at hi; subst hi; rfl
  | f :: fs, nm, 0, _, _, h2 => by
    have := h2 f rfl
    unfold placeOfName
    rw [List.takeWhile_cons, if_neg (by simp [this])]
    rfl
  | f :: fs, nm, i + 1, hi, h1, h2 => by
    have h0 := h1 0 f (by omega) rfl
    have ih := place_of fs nm i (by simpa using hi) (fun x g hx hg => h1 (x + 1) g (by omega) (by simpa using hg)) (fun g hg => h2 g (by simpa using hg))
    unfold placeOfName at ih ⊢
    rw [List.takeWhile_cons, if_pos h0, List.length_cons, ih]
theorem insert_eq {α : Type} (fs : List (Bs × α)) (nm : Bs) (v : α) : insertAt fs nm v = fs.take (placeOfName fs nm) ++ (nm, v) :: fs.drop (placeOfName fs nm) := by
  unfold insertAt placeOfName
  have h := List.takeWhile_append_dropWhile (p := fun f : Bs × α => less f.1 nm) (l := fs)
  have h1 : fs.take (fs.takeWhile fun f => less f.1 nm).length = fs.takeWhile fun f => less f.1 nm := (List.prefix_iff_eq_take.1 (List.takeWhile_prefix _)).symm
  have h2 : fs.drop (fs.takeWhile fun f => less f.1 nm).length = fs.dropWhile fun f => less f.1 nm := by
    have e : fs.drop (fs.takeWhile fun f => less f.1 nm).length = ((fs.takeWhile fun f => less f.1 nm) ++ fs.dropWhile fun f => less f.1 nm).drop (fs.takeWhile fun f => less f.1 nm).length := by rw [h]
    rw [e, List.drop_left]
  rw [h1, h2]
theorem rising_get {α : Type} {fs : List (Bs × α)} (h : Rising fs) {i j : Nat} {f g : Bs × α} (hij : i < j) (hf : fs[i]? = some f) (hg : fs[j]? = some g) : less f.1 g.1 = true := by
  obtain ⟨hi, rfl⟩ := List.getElem?_eq_some_iff.1 hf
  obtain ⟨hj, rfl⟩ := List.getElem?_eq_some_iff.1 hg
  exact List.pairwise_iff_getElem.1 h i j hi hj hij
theorem place_spec {α : Type} (fs : List (Bs × α)) (nm : Bs) : (∀ (x : Nat) (f : Bs × α), x < placeOfName fs nm → fs[x]? = some f → less f.1 nm = true) ∧ ∀ (f : Bs × α), fs[placeOfName fs nm]? = some f → less f.1 nm = false := by
  induction fs with
  | nil => exact ⟨fun x f _ h => by simp at h, fun f h => by simp at h⟩
  | cons f fs ih =>
    unfold placeOfName
    rw [List.takeWhile_cons]
    split
    · rename_i hl
      refine ⟨fun x g hx hg => ?_, fun g hg => ?_⟩
      · cases x with
        | zero => simp at hg; subst hg; exact hl
        | succ x => exact ih.1 x g (by simpa [placeOfName] using hx) (by simpa using hg)
      · exact ih.2 g (by simpa [placeOfName] using hg)
    · rename_i hl
      refine ⟨fun x g hx hg => by simp at hx, fun g hg => ?_⟩
      simp at hg
      subst hg
      simpa using hl
/-- there is a field of that name just if it is at that place -/
theorem any_place {α : Type} {fs : List (Bs × α)} (h : Rising fs) (nm : Bs) : (fs.any fun f => f.1 == nm) = (match fs[placeOfName fs nm]? with | none => false | some f => decide (Lib.compareBytes f.1 nm = 0)) := by
  have hs := place_spec fs nm
  rw [Bool.eq_iff_iff, List.any_eq_true]
  constructor
  · rintro ⟨f, hf, he⟩
    obtain ⟨x, hx, rfl⟩ := List.getElem_of_mem hf
    have he' : fs[x].1 = nm := by simpa using he
    have hx' : fs[x]? = some fs[x] := List.getElem?_eq_getElem hx
    have hge : placeOfName fs nm ≤ x := by
      rcases Nat.lt_or_ge x (placeOfName fs nm) with h' | h'
      · have := hs.1 x _ h' hx'
        rw [he', less_iff, cmp_self] at this
        omega
      · exact h'
    have hle : x ≤ placeOfName fs nm := by
      rcases Nat.lt_or_ge (placeOfName fs nm) x with h' | h'
      · have hp : placeOfName fs nm < fs.length := by omega
        have hp' : fs[placeOfName fs nm]? = some fs[placeOfName fs nm] := List.getElem?_eq_getElem hp
        have h1 := rising_get h h' hp' hx'
        rw [he'] at h1
        have h2 := hs.2 _ hp'
        rw [h1] at h2
        cases h2
      · exact h'
    have e : placeOfName fs nm = x := by omega
    rw [e, hx']
    simp [he', cmp_self]
  · intro hm
    cases hp : fs[placeOfName fs nm]? with
    | none => rw [hp] at hm; cases hm
    | some f =>
      rw [hp] at hm
      have := cmp_eq _ _ (of_decide_eq_true hm)
      exact ⟨f, List.mem_of_getElem? hp, by simp [this]⟩
theorem less_of_not {a b : Bs} (h : less a b = false) (hne : a ≠ b) : less b a = true := by
  rw [less_iff, cmp_swap a b]
  have h1 : ¬ Lib.compareBytes a b < 0 := by simpa [less] using h
  rcases cmp_vals a b with h2 | h2 | h2
  · exact absurd (cmp_eq _ _ h2) hne
  · omega
  · omega
theorem rising_insert {α : Type} {fs : List (Bs × α)} (h : Rising fs) (nm : Bs) (v : α) (hn : (fs.any fun f => f.1 == nm) = false) : Rising (insertAt fs nm v) := by
  have hs := place_spec fs nm
  rw [insert_eq]
  unfold Rising
  rw [List.pairwise_append]
  have hne : ∀ f ∈ fs, f.1 ≠ nm := by
    intro f hf e
    rw [List.any_eq_false] at hn
    exact hn f hf (by simp [e])
  refine ⟨List.Pairwise.sublist (List.take_sublist _ _) h, ?_, ?_⟩
  · rw [List.pairwise_cons]
    refine ⟨fun g hg => ?_, List.Pairwise.sublist (List.drop_sublist _ _) h⟩
    obtain ⟨x, hx, rfl⟩ := List.getElem_of_mem hg
    rw [List.getElem_drop]
    have hx' : placeOfName fs nm + x < fs.length := by simp at hx; omega
    have hget : fs[placeOfName fs nm + x]? = some fs[placeOfName fs nm + x] := List.getElem?_eq_getElem hx'
    have hp' : fs[placeOfName fs nm]? = some (fs[placeOfName fs nm]'(by omega)) := List.getElem?_eq_getElem (by omega)
    have h0 : less nm (fs[placeOfName fs nm]'(by omega)).1 = true := less_of_not (hs.2 _ hp') (hne _ (List.getElem_mem _))
    rcases Nat.eq_zero_or_pos x with rfl | hpos
    · exact h0
    · have h1 := rising_get h (show placeOfName fs nm < placeOfName fs nm + x by omega) hp' hget
      rw [less_iff] at h0 h1 ⊢
      exact cmp_trans _ _ _ h0 h1
  · intro f hf g hg
    obtain ⟨x, hx, rfl⟩ := List.getElem_of_mem hf
    have hxl : x < placeOfName fs nm := by simp at hx; omega
    have hxf : x < fs.length := by have := place_le fs nm; omega
    rw [List.getElem_take]
    have hget : fs[x]? = some fs[x] := List.getElem?_eq_getElem hxf
    have h1 := hs.1 x _ hxl hget
    rcases List.mem_cons.1 hg with rfl | hg
    · exact h1
    · obtain ⟨y, hy, rfl⟩ := List.getElem_of_mem hg
      rw [List.getElem_drop]
      have hy' : placeOfName fs nm + y < fs.length := by simp at hy; omega
      exact rising_get h (show x < placeOfName fs nm + y by omega) hget (List.getElem?_eq_getElem hy')
end Go.Proofs.YthdgfehfoidnbabGreatDoor
/- Plain facts on values: which are within their bounds; how long their documents are. -/
namespace Go.Proofs.YthdgfehfoidnbabGreatDoor
set_option linter.unusedVariables false
set_option linter.unusedSimpArgs false
def GoodLeaf : Leaf → Prop
  | some (Sum.inr (Sum.inl i)) => -1000000000000000000 < i ∧ i < 1000000000000000000
  | some (Sum.inr (Sum.inr s)) => ∀ c ∈ s, meant c = true
  | _ => True
/-- numbers of 18 digits, texts of bytes that may be, fields that rise -/
def Good : (n : Nat) → J n → Prop
  | 0, l => GoodLeaf l
  | _ + 1, Sum.inl l => GoodLeaf l
  | n + 1, Sum.inr (Sum.inl xs) => ∀ x ∈ xs, Good n x
  | n + 1, Sum.inr (Sum.inr fs) => Rising fs ∧ ∀ f ∈ fs, (∀ c ∈ f.1, meant c = true) ∧ Good n f.2
/-- numbers that fit -/
def FitLeaf : Leaf → Prop
  | some (Sum.inr (Sum.inl i)) => -1000000000000000000 < i ∧ i < 1000000000000000000
  | _ => True
def Fit : (n : Nat) → J n → Prop
  | 0, l => FitLeaf l
  | _ + 1, Sum.inl l => FitLeaf l
  | n + 1, Sum.inr (Sum.inl xs) => ∀ x ∈ xs, Fit n x
  | n + 1, Sum.inr (Sum.inr fs) => ∀ f ∈ fs, Fit n f.2
theorem fit_leaf {l : Leaf} (h : GoodLeaf l) : FitLeaf l := by
  rcases l with _ | b | i | s
  · trivial
  · trivial
  · exact h
  · trivial
theorem fit_of_good : ∀ (n : Nat) (j : J n), Good n j → Fit n j
  | 0, l, h => fit_leaf h
  | _ + 1, Sum.inl l, h => fit_leaf h
  | n + 1, Sum.inr (Sum.inl xs), h => fun x hx => fit_of_good n x (h x hx)
  | n + 1, Sum.inr (Sum.inr fs), h => fun f hf => fit_of_good n f.2 (h.2 f hf).2
theorem good_leaf {n : Nat} {l : Leaf} (h : GoodLeaf l) : Good n (leaf n l) := by
  cases n <;> exact h
theorem leafE_good {r : Bs} {l : Leaf} {r' : Bs} (h : leafE r = .ok (l, r')) : GoodLeaf l := by
  unfold leafE at h
  split at h
  · unfold word at h; split at h <;> cases h; trivial
  · split at h
    · unfold word at h; split at h <;> cases h; trivial
    · split at h
      · unfold word at h; split at h <;> cases h; trivial
      · split at h
        · unfold textE at h
          cases hq : quoted r with
          | none => rw [hq] at h; cases h
          | some p =>
            rw [hq] at h
            cases h
            exact (quoted_meant hq).1
        · unfold number at h
          simp only [] at h
          generalize (if (hd r == 45) = true then r.tail else r) = r1 at h
          split at h
          · cases h
          · split at h
            · cases h
            · split at h
              · cases h
              · rename_i h1 h2 h3
                cases h
                show -1000000000000000000 < numVal _ _ ∧ numVal _ _ < 1000000000000000000
                have hdg : ∀ c ∈ r1.takeWhile isDigit, isDigit c = true := fun c hc => by
                  have := List.all_takeWhile (p := isDigit) (l := r1)
                  rw [List.all_eq_true] at this
                  exact this c hc
                have hlt := decV_lt _ hdg
                have hle : 10 ^ (r1.takeWhile isDigit).length ≤ 10 ^ 18 := Nat.pow_le_pow_right (by decide) (by omega)
                have hb : decV (r1.takeWhile isDigit) < 1000000000000000000 := by omega
                unfold numVal
                split <;> omega
/-- what holds of all parts -/
theorem rowGo_all {σ : Type} {z : UInt8} {one : σ → Nat → Bs → Except Nat (σ × Nat × Bs)} {P : σ → Prop} (h : ∀ s k r s' k' r', P s → one s k r = .ok (s', k', r') → P s') : ∀ (f : Nat) (s : σ) (k : Nat) (r : Bs) (s' : σ) (k' : Nat) (r' : Bs), P s → rowGo z one f s k r = .ok (s', k', r') → P s'
  | 0, s, k, r, s', k', r', _, e => by simp [rowGo] at e
  | f + 1, s, k, r, s', k', r', hs, e => by
    rw [rowGo] at e
    cases ho : one s k r with
    | error er => rw [ho] at e; cases e
    | ok p =>
      obtain ⟨s1, k1, r1⟩ := p
      have h1 := h s k r s1 k1 r1 hs ho
      rw [ho] at e
      simp only [] at e
      split at e
      · cases e; exact h1
      · split at e
        · exact rowGo_all h f s1 k1 _ s' k' r' h1 e
        · cases e
theorem row_all {σ : Type} {z : UInt8} {one : σ → Nat → Bs → Except Nat (σ × Nat × Bs)} {P : σ → Prop} (h : ∀ s k r s' k' r', P s → one s k r = .ok (s', k', r') → P s') (s : σ) (k : Nat) (r : Bs) (s' : σ) (k' : Nat) (r' : Bs) (hs : P s) (e : row z one s k r = .ok (s', k', r')) : P s' := by
  unfold row at e
  split at e
  · cases e; exact hs
  · exact rowGo_all h _ _ _ _ _ _ _ hs e
theorem oneItem_ok {α : Type} {pv : Nat → Bs → Except Nat (α × Nat × Bs)} {s s' : List α} {k k' : Nat} {r r' : Bs} (h : oneItem pv s k r = .ok (s', k', r')) : ∃ v, pv k r = .ok (v, k', r') ∧ s' = s ++ [v] := by
  unfold oneItem at h
  cases hv : pv k r with
  | error er => rw [hv] at h; cases h
  | ok p =>
    obtain ⟨v, k1, r1⟩ := p
    rw [hv] at h
    cases h
    exact ⟨v, rfl, rfl⟩
theorem nameE_ok {α : Type} {fs : List (Bs × α)} {r nm r' : Bs} (h : nameE fs r = .ok (nm, r')) : ∃ q, quoted (skip r) = some (nm, q) ∧ (fs.any fun f => f.1 == nm) = false ∧ hd (skip q) = 58 ∧ r' = (skip q).tail := by
  unfold nameE at h
  cases hq : quoted (skip r) with
  | none => rw [hq] at h; cases h
  | some p =>
    rw [hq] at h
    simp only [] at h
    split at h
    · cases h
    · split at h
      · rename_i h1 h2
        cases h
        exact ⟨p.2, rfl, by rw [← Bool.not_eq_true]; exact h1, h2, rfl⟩
      · cases h
theorem oneField_ok {α : Type} {pv : Nat → Bs → Except Nat (α × Nat × Bs)} {s s' : List (Bs × α)} {k k' : Nat} {r r' : Bs} (h : oneField pv s k r = .ok (s', k', r')) : ∃ nm v r1, nameE s r = .ok (nm, r1) ∧ pv k r1 = .ok (v, k', r') ∧ s' = insertAt s nm v := by
  unfold oneField at h
  cases hn : nameE s r with
  | error er => rw [hn] at h; cases h
  | ok p =>
    obtain ⟨nm, r1⟩ := p
    rw [hn] at h
    simp only [] at h
    cases hv : pv k r1 with
    | error er => rw [hv] at h; cases h
    | ok p =>
      obtain ⟨v, k1, r2⟩ := p
      rw [hv] at h
      cases h
      exact ⟨nm, v, r1, rfl, hv, rfl⟩
theorem mem_insertAt {α : Type} {fs : List (Bs × α)} {nm : Bs} {v : α} {f : Bs × α} (h : f ∈ insertAt fs nm v) : f = (nm, v) ∨ f ∈ fs := by
  rw [insert_eq] at h
  rcases List.mem_append.1 h with h | h
  · exact Or.inr (List.mem_of_mem_take h)
  · rcases List.mem_cons.1 h with h | h
    · exact Or.inl h
    · exact Or.inr (List.mem_of_mem_drop h)
/-- the ways of a value that is read -/
theorem value_cases {n k : Nat} {r : Bs} {j : J n} {k' : Nat} {r' : Bs} (e : value n k r = .ok (j, k', r')) :
    (beginE n k (skip r) = 0) ∧ ((∃ l, hd (skip r) ≠ 91 ∧ hd (skip r) ≠ 123 ∧ leafE (skip r) = .ok (l, r') ∧ j = leaf n l ∧ k' = k + 1) ∨
      (∃ m, ∃ hm : n = m + 1, ∃ xs : List (J m), hd (skip r) = 91 ∧ row 93 (oneItem (value m)) [] (k + 1) (skip r) = .ok (xs, k', r') ∧ j = hm ▸ (Sum.inr (Sum.inl xs) : J (m + 1))) ∨
      (∃ m, ∃ hm : n = m + 1, ∃ fs : List (Bs × J m), hd (skip r) = 123 ∧ row 125 (oneField (value m)) [] (k + 1) (skip r) = .ok (fs, k', r') ∧ j = hm ▸ (Sum.inr (Sum.inr fs) : J (m + 1)))) := by
  cases n with
  | zero =>
    rw [value] at e
    split at e
    · cases e
    · rename_i h0
      have h0' : beginE 0 k (skip r) = 0 := by simpa using h0
      refine ⟨h0', Or.inl ?_⟩
      unfold leafAt at e
      cases hl : leafE (skip r) with
      | error er => rw [hl] at e; cases e
      | ok p =>
        obtain ⟨l, r1⟩ := p
        rw [hl] at e
        cases e
        have hne : hd (skip r) ≠ 91 ∧ hd (skip r) ≠ 123 := by
          unfold beginE at h0'
          split at h0'
          · simp at h0'
          · split at h0'
            · simp at h0'
            · split at h0'
              · simp at h0'
              · rename_i h
                exact ⟨fun e => h ⟨rfl, Or.inl e⟩, fun e => h ⟨rfl, Or.inr e⟩⟩
        exact ⟨l, hne.1, hne.2, rfl, rfl, rfl⟩
  | succ n =>
    rw [value] at e
    split at e
    · cases e
    · rename_i h0
      refine ⟨by simpa using h0, ?_⟩
      split at e
      · rename_i h91
        cases hr : row 93 (oneItem (value n)) [] (k + 1) (skip r) with
        | error er => rw [hr] at e; cases e
        | ok p =>
          obtain ⟨s1, k1, r1⟩ := p
          rw [hr] at e
          cases e
          exact Or.inr (Or.inl ⟨n, rfl, s1, h91, hr, rfl⟩)
      · rename_i h91
        split at e
        · rename_i h123
          cases hr : row 125 (oneField (value n)) [] (k + 1) (skip r) with
          | error er => rw [hr] at e; cases e
          | ok p =>
            obtain ⟨s1, k1, r1⟩ := p
            rw [hr] at e
            cases e
            exact Or.inr (Or.inr ⟨n, rfl, s1, h123, hr, rfl⟩)
        · rename_i h123
          unfold leafAt at e
          cases hl : leafE (skip r) with
          | error er => rw [hl] at e; cases e
          | ok p =>
            obtain ⟨l, r1⟩ := p
            rw [hl] at e
            cases e
            exact Or.inl ⟨l, h91, h123, rfl, rfl, rfl⟩
theorem value_good : ∀ (n : Nat) (k : Nat) (r : Bs) (j : J n) (k' : Nat) (r' : Bs), value n k r = .ok (j, k', r') → Good n j
  | 0, k, r, j, k', r', e => by
    rcases (value_cases e).2 with ⟨l, _, _, hl, rfl, _⟩ | ⟨m, hm, _⟩ | ⟨m, hm, _⟩
    · exact good_leaf (leafE_good hl)
    · cases hm
    · cases hm
  | n + 1, k, r, j, k', r', e => by
    rcases (value_cases e).2 with ⟨l, _, _, hl, rfl, _⟩ | ⟨m, hm, xs, _, hr, hj⟩ | ⟨m, hm, fs, _, hr, hj⟩
    · exact good_leaf (leafE_good hl)
    · cases hm
      subst hj
      refine row_all (one := oneItem (value n)) (P := fun s => ∀ x ∈ s, Good n x) (fun s k r s' k' r' hs ho => ?_) _ _ _ _ _ _ (fun x hx => by simp at hx) hr
      obtain ⟨v, hv, rfl⟩ := oneItem_ok ho
      intro x hx
      rcases List.mem_append.1 hx with hx | hx
      · exact hs x hx
      · simp at hx
        subst hx
        exact value_good n k r x k' r' hv
    · cases hm
      subst hj
      refine row_all (one := oneField (value n)) (P := fun s => Rising s ∧ ∀ f ∈ s, (∀ c ∈ f.1, meant c = true) ∧ Good n f.2) (fun s k r s' k' r' hs ho => ?_) _ _ _ _ _ _ ⟨List.Pairwise.nil, fun x hx => by simp at hx⟩ hr
      obtain ⟨nm, v, r1, hn, hv, rfl⟩ := oneField_ok ho
      obtain ⟨q, hq, hany, _, _⟩ := nameE_ok hn
      refine ⟨rising_insert hs.1 nm v hany, fun f hf => ?_⟩
      rcases mem_insertAt hf with rfl | hf
      · exact ⟨(quoted_meant hq).1, value_good n k r1 v k' r' hv⟩
      · exact hs.2 f hf
theorem read_good {s : Bs} {j : J 10} (h : read s = .ok j) : Good 10 j := by
  unfold read at h
  split at h
  · cases h
  · cases hv : value 10 0 s with
    | error er => rw [hv] at h; cases h
    | ok p =>
      obtain ⟨j1, k1, r1⟩ := p
      rw [hv] at h
      simp only [] at h
      split at h
      · cases h
        exact value_good 10 0 s j k1 r1 hv
      · cases h
end Go.Proofs.YthdgfehfoidnbabGreatDoor
/- Plain facts: a value with room for another depth; what is told of it, how large it is, stays. -/
namespace Go.Proofs.YthdgfehfoidnbabGreatDoor
set_option linter.unusedVariables false
set_option linter.unusedSimpArgs false
/-- the same value, with room for depth m (what is deeper is lost) -/
def lift : (n m : Nat) → J n → J m
  | 0, m, l => leaf m l
  | _ + 1, m, Sum.inl l => leaf m l
  | _ + 1, 0, Sum.inr _ => leaf 0 none
  | n + 1, m + 1, Sum.inr (Sum.inl xs) => Sum.inr (Sum.inl (xs.map (lift n m)))
  | n + 1, m + 1, Sum.inr (Sum.inr fs) => Sum.inr (Sum.inr (fs.map fun f => (f.1, lift n m f.2)))
theorem lift_leaf (n m : Nat) (l : Leaf) : lift n m (leaf n l) = leaf m l := by
  cases n <;> rfl
theorem maxOf_mem : ∀ (l : List Nat) (y : Nat), y ∈ l → y ≤ maxOf l
  | [], y, h => by simp at h
  | x :: l, y, h => by
    rcases List.mem_cons.1 h with rfl | h
    · exact Nat.le_max_left _ _
    · exact Nat.le_trans (maxOf_mem l y h) (Nat.le_max_right _ _)
theorem deep_item {n : Nat} {xs : List (J n)} {m : Nat} (h : depth (n + 1) (Sum.inr (Sum.inl xs)) ≤ m + 1) (x : J n) (hx : x ∈ xs) : depth n x ≤ m := by
  have h1 : 1 + maxOf (xs.map (depth n)) ≤ m + 1 := h
  have h2 := maxOf_mem (xs.map (depth n)) (depth n x) (List.mem_map.2 ⟨x, hx, rfl⟩)
  omega
theorem deep_field {n : Nat} {fs : List (Bs × J n)} {m : Nat} (h : depth (n + 1) (Sum.inr (Sum.inr fs)) ≤ m + 1) (f : Bs × J n) (hf : f ∈ fs) : depth n f.2 ≤ m := by
  have h1 : 1 + maxOf (fs.map fun f => depth n f.2) ≤ m + 1 := h
  have h2 := maxOf_mem (fs.map fun f => depth n f.2) (depth n f.2) (List.mem_map.2 ⟨f, hf, rfl⟩)
  omega
theorem leaf_said (m : Nat) (l : Leaf) : tell m (leaf m l) = tellLeaf l ∧ nodes m (leaf m l) = 1 ∧ depth m (leaf m l) = 0 ∧ kindJ m (leaf m l) = kindLeaf l := by
  cases m <;> exact ⟨rfl, rfl, rfl, rfl⟩
/-- what a value says is the same at every depth that it has room in -/
theorem lift_said : ∀ (n m : Nat) (j : J n), depth n j ≤ m → tell m (lift n m j) = tell n j ∧ nodes m (lift n m j) = nodes n j ∧ depth m (lift n m j) = depth n j ∧ kindJ m (lift n m j) = kindJ n j
  | 0, m, l, _ => leaf_said m l
  | _ + 1, m, Sum.inl l, _ => leaf_said m l
  | n + 1, 0, Sum.inr (Sum.inl xs), h => by
    have h1 : 1 + maxOf (xs.map (depth n)) ≤ 0 := h
    omega
  | n + 1, 0, Sum.inr (Sum.inr fs), h => by
    have h1 : 1 + maxOf (fs.map fun f => depth n f.2) ≤ 0 := h
    omega
  | n + 1, m + 1, Sum.inr (Sum.inl xs), h => by
    have ih : ∀ x ∈ xs, tell m (lift n m x) = tell n x ∧ nodes m (lift n m x) = nodes n x ∧ depth m (lift n m x) = depth n x ∧ kindJ m (lift n m x) = kindJ n x := fun x hx => lift_said n m x (deep_item h x hx)
    have e1 : (xs.map (lift n m)).map (tell m) = xs.map (tell n) := by
      rw [List.map_map]
      exact List.map_congr_left fun x hx => (ih x hx).1
    have e2 : (xs.map (lift n m)).map (nodes m) = xs.map (nodes n) := by
      rw [List.map_map]
      exact List.map_congr_left fun x hx => (ih x hx).2.1
    have e3 : (xs.map (lift n m)).map (depth m) = xs.map (depth n) := by
      rw [List.map_map]
      exact List.map_congr_left fun x hx => (ih x hx).2.2.1
    refine ⟨?_, ?_, ?_, rfl⟩
    · show 91 :: (commas ((xs.map (lift n m)).map (tell m)) ++ [93]) = 91 :: (commas (xs.map (tell n)) ++ [93])
      rw [e1]
    · show 1 + ((xs.map (lift n m)).map (nodes m)).sum = 1 + (xs.map (nodes n)).sum
      rw [e2]
    · show 1 + maxOf ((xs.map (lift n m)).map (depth m)) = 1 + maxOf (xs.map (depth n))
      rw [e3]
  | n + 1, m + 1, Sum.inr (Sum.inr fs), h => by
    have ih : ∀ f ∈ fs, tell m (lift n m f.2) = tell n f.2 ∧ nodes m (lift n m f.2) = nodes n f.2 ∧ depth m (lift n m f.2) = depth n f.2 ∧ kindJ m (lift n m f.2) = kindJ n f.2 := fun f hf => lift_said n m f.2 (deep_field h f hf)
    have e1 : (fs.map fun f => (f.1, lift n m f.2)).map (fun f => quote f.1 ++ 58 :: tell m f.2) = fs.map (fun f => quote f.1 ++ 58 :: tell n f.2) := by
      rw [List.map_map]
      refine List.map_congr_left fun f hf => ?_
      show quote f.1 ++ 58 :: tell m (lift n m f.2) = _
      rw [(ih f hf).1]
    have e2 : (fs.map fun f => (f.1, lift n m f.2)).map (fun f => nodes m f.2) = fs.map (fun f => nodes n f.2) := by
      rw [List.map_map]
      exact List.map_congr_left fun f hf => (ih f hf).2.1
    have e3 : (fs.map fun f => (f.1, lift n m f.2)).map (fun f => depth m f.2) = fs.map (fun f => depth n f.2) := by
      rw [List.map_map]
      exact List.map_congr_left fun f hf => (ih f hf).2.2.1
    refine ⟨?_, ?_, ?_, rfl⟩
    · show 123 :: (commas ((fs.map fun f => (f.1, lift n m f.2)).map (fun f => quote f.1 ++ 58 :: tell m f.2)) ++ [125]) = 123 :: (commas (fs.map (fun f => quote f.1 ++ 58 :: tell n f.2)) ++ [125])
      rw [e1]
    · show 1 + ((fs.map fun f => (f.1, lift n m f.2)).map (fun f => nodes m f.2)).sum = 1 + (fs.map (fun f => nodes n f.2)).sum
      rw [e2]
    · show 1 + maxOf ((fs.map fun f => (f.1, lift n m f.2)).map (fun f => depth m f.2)) = 1 + maxOf (fs.map (fun f => depth n f.2))
      rw [e3]
theorem depth_bound : ∀ (n : Nat) (j : J n), depth n j ≤ n
  | 0, _ => Nat.le_refl _
  | _ + 1, Sum.inl _ => Nat.zero_le _
  | n + 1, Sum.inr (Sum.inl xs) => by
    have h : ∀ l : List Nat, (∀ y ∈ l, y ≤ n) → maxOf l ≤ n := by
      intro l
      induction l with
      | nil => intro _; exact Nat.zero_le _
      | cons x l ih =>
        intro hl
        exact Nat.max_le.2 ⟨hl x (by simp), ih (fun y hy => hl y (by simp [hy]))⟩
    have h1 := h (xs.map (depth n)) (fun y hy => by
      obtain ⟨x, _, rfl⟩ := List.mem_map.1 hy
      exact depth_bound n x)
    show 1 + maxOf (xs.map (depth n)) ≤ n + 1
    omega
  | n + 1, Sum.inr (Sum.inr fs) => by
    have h : ∀ l : List Nat, (∀ y ∈ l, y ≤ n) → maxOf l ≤ n := by
      intro l
      induction l with
      | nil => intro _; exact Nat.zero_le _
      | cons x l ih =>
        intro hl
        exact Nat.max_le.2 ⟨hl x (by simp), ih (fun y hy => hl y (by simp [hy]))⟩
    have h1 := h (fs.map fun f => depth n f.2) (fun y hy => by
      obtain ⟨x, _, rfl⟩ := List.mem_map.1 hy
      exact depth_bound n x.2)
    show 1 + maxOf (fs.map fun f => depth n f.2) ≤ n + 1
    omega
theorem lift_self : ∀ (n : Nat) (j : J n), lift n n j = j
  | 0, _ => rfl
  | _ + 1, Sum.inl _ => rfl
  | n + 1, Sum.inr (Sum.inl xs) => by
    show Sum.inr (Sum.inl (xs.map (lift n n))) = (Sum.inr (Sum.inl xs) : J (n + 1))
    rw [show xs.map (lift n n) = xs from by
      rw [List.map_congr_left (g := id) (fun x _ => lift_self n x)]
      exact List.map_id _]
  | n + 1, Sum.inr (Sum.inr fs) => by
    show Sum.inr (Sum.inr (fs.map fun f => (f.1, lift n n f.2))) = (Sum.inr (Sum.inr fs) : J (n + 1))
    rw [show (fs.map fun f => (f.1, lift n n f.2)) = fs from by
      rw [List.map_congr_left (g := id) (fun f _ => by show (f.1, lift n n f.2) = f; rw [lift_self n f.2])]
      exact List.map_id _]
/-- two steps of room are one, if nothing is lost on the way -/
theorem lift_lift : ∀ (n m k : Nat) (j : J n), depth n j ≤ m → lift m k (lift n m j) = lift n k j
  | 0, m, k, l, _ => lift_leaf m k l
  | _ + 1, m, k, Sum.inl l, _ => lift_leaf m k l
  | n + 1, 0, k, Sum.inr (Sum.inl xs), h => by
    have h1 : 1 + maxOf (xs.map (depth n)) ≤ 0 := h
    omega
  | n + 1, 0, k, Sum.inr (Sum.inr fs), h => by
    have h1 : 1 + maxOf (fs.map fun f => depth n f.2) ≤ 0 := h
    omega
  | n + 1, m + 1, 0, Sum.inr (Sum.inl xs), h => rfl
  | n + 1, m + 1, 0, Sum.inr (Sum.inr fs), h => rfl
  | n + 1, m + 1, k + 1, Sum.inr (Sum.inl xs), h => by
    show (Sum.inr (Sum.inl ((xs.map (lift n m)).map (lift m k))) : J (k + 1)) = Sum.inr (Sum.inl (xs.map (lift n k)))
    rw [List.map_map]
    exact congrArg (fun l => (Sum.inr (Sum.inl l) : J (k + 1))) (List.map_congr_left fun x hx => lift_lift n m k x (deep_item h x hx))
  | n + 1, m + 1, k + 1, Sum.inr (Sum.inr fs), h => by
    show (Sum.inr (Sum.inr ((fs.map fun f => (f.1, lift n m f.2)).map fun f => (f.1, lift m k f.2))) : J (k + 1)) = Sum.inr (Sum.inr (fs.map fun f => (f.1, lift n k f.2)))
    rw [List.map_map]
    refine congrArg (fun l => (Sum.inr (Sum.inr l) : J (k + 1))) (List.map_congr_left fun f hf => ?_)
    show (f.1, lift m k (lift n m f.2)) = _
    rw [lift_lift n m k f.2 (deep_field h f hf)]
theorem rising_map {α β : Type} {fs : List (Bs × α)} (g : α → β) (h : Rising fs) : Rising (fs.map fun f => (f.1, g f.2)) := by
  unfold Rising at h ⊢
  rw [List.pairwise_map]
  exact h
theorem good_lift : ∀ (n m : Nat) (j : J n), Good n j → Good m (lift n m j)
  | 0, m, l, h => good_leaf h
  | _ + 1, m, Sum.inl l, h => good_leaf h
  | n + 1, 0, Sum.inr (Sum.inl xs), h => trivial
  | n + 1, 0, Sum.inr (Sum.inr fs), h => trivial
  | n + 1, m + 1, Sum.inr (Sum.inl xs), h => by
    intro y hy
    obtain ⟨x, hx, rfl⟩ := List.mem_map.1 hy
    exact good_lift n m x (h x hx)
  | n + 1, m + 1, Sum.inr (Sum.inr fs), h => by
    refine ⟨rising_map _ h.1, fun g hg => ?_⟩
    obtain ⟨f, hf, rfl⟩ := List.mem_map.1 hg
    exact ⟨(h.2 f hf).1, good_lift n m f.2 (h.2 f hf).2⟩
end Go.Proofs.YthdgfehfoidnbabGreatDoor
/- Plain functions: what a step leads to, what is put and cut there, along several steps. -/
namespace Go.Proofs.YthdgfehfoidnbabGreatDoor
set_option linter.unusedVariables false
set_option linter.unusedSimpArgs false
/-- which place of a list a step is -/
def placeP (s : Bs) : Option Nat :=
  match Lib.atoiAll s with
  | .ok v => if 0 ≤ v ∧ Lib.itoa v = s then some v.toNat else none
  | _ => none
theorem placeP_itoa {s : Bs} {i : Nat} (h : placeP s = some i) : s = Lib.itoa (i : Int) := by
  unfold placeP at h
  split at h
  · split at h
    · rename_i v _ hv
      cases h
      rw [Int.toNat_of_nonneg hv.1]
      exact hv.2.symm
    · cases h
  · cases h
theorem placeP_inj {s t : Bs} {i : Nat} (h : placeP s = some i) (g : placeP t = some i) : s = t := (placeP_itoa h).trans (placeP_itoa g).symm
theorem placeP_dash : placeP [45] = none := by decide +kernel
section
variable {α : Type}
/-- the value of the field of that name -/
def fieldAt (fs : List (Bs × α)) (s : Bs) : Option α := if fs.any (fun f => f.1 == s) then (fs[placeOfName fs s]?).map (·.2) else none
/-- with that field, from now on -/
def setAt (fs : List (Bs × α)) (s : Bs) (v : α) : List (Bs × α) := fs.take (placeOfName fs s) ++ (s, v) :: fs.drop (placeOfName fs s + if fs.any (fun f => f.1 == s) then 1 else 0)
/-- without that field -/
def cutAt (fs : List (Bs × α)) (s : Bs) : List (Bs × α) := fs.take (placeOfName fs s) ++ fs.drop (placeOfName fs s + 1)
/-- with that field's value another one -/
def repl (fs : List (Bs × α)) (s : Bs) (v : α) : List (Bs × α) := fs.map fun f => if f.1 == s then (f.1, v) else f
theorem less_irrefl (s : Bs) : less s s = false := by
  rw [← Bool.not_eq_true, less_iff, cmp_self]
  omega
theorem less_asymm {s t : Bs} (h : less s t = true) : less t s = false := by
  rw [← Bool.not_eq_true]
  intro g
  rw [less_iff] at h g
  have := cmp_trans _ _ _ h g
  rw [cmp_self] at this
  omega
theorem less_ne {s t : Bs} (h : less s t = true) : s ≠ t := by
  rintro rfl
  rw [less_irrefl] at h
  cases h
/-- the field of that name, what stands ahead of it and behind it -/
theorem rise_split {fs : List (Bs × α)} (hr : Rising fs) {s : Bs} (ha : (fs.any fun f => f.1 == s) = true) :
    ∃ A c C, fs = A ++ (s, c) :: C ∧ placeOfName fs s = A.length ∧ (∀ f ∈ A, less f.1 s = true) ∧ ∀ f ∈ C, less s f.1 = true := by
  have hp := any_place hr s
  rw [ha] at hp
  cases hf : fs[placeOfName fs s]? with
  | none => rw [hf] at hp; cases hp
  | some f =>
    rw [hf] at hp
    have he := cmp_eq _ _ (of_decide_eq_true hp.symm)
    obtain ⟨hl, hg⟩ := List.getElem?_eq_some_iff.1 hf
    have hd : fs.drop (placeOfName fs s) = f :: fs.drop (placeOfName fs s + 1) := by rw [List.drop_eq_getElem_cons hl, hg]
    have hsp : fs = fs.take (placeOfName fs s) ++ (s, f.2) :: fs.drop (placeOfName fs s + 1) := by
      have h1 := (List.take_append_drop (placeOfName fs s) fs).symm
      rw [hd] at h1
      have e : f = (s, f.2) := by rw [← he]
      rw [e] at h1
      exact h1
    refine ⟨fs.take (placeOfName fs s), f.2, fs.drop (placeOfName fs s + 1), hsp, ?_, ?_, ?_⟩
    · rw [List.length_take]
      omega
    · intro g hg'
      obtain ⟨x, hx, rfl⟩ := List.getElem_of_mem hg'
      have hx' : x < placeOfName fs s := by rw [List.length_take] at hx; omega
      exact (place_spec fs s).1 x _ hx' (by rw [List.getElem_take]; exact List.getElem?_eq_getElem (by omega))
    · have hr2 := hr
      rw [hsp] at hr2
      unfold Rising at hr2
      rw [List.pairwise_append] at hr2
      exact (List.pairwise_cons.1 hr2.2.1).1
theorem any_mid {A C : List (Bs × α)} {s : Bs} {c : α} : ((A ++ (s, c) :: C).any fun f => f.1 == s) = true := by simp
theorem place_mid {A X : List (Bs × α)} {s : Bs} (hA : ∀ f ∈ A, less f.1 s = true) (hX : ∀ f, X[0]? = some f → less f.1 s = false) : placeOfName (A ++ X) s = A.length := by
  refine place_of _ _ _ (by simp) (fun x f hx hf => ?_) (fun f hf => ?_)
  · rw [List.getElem?_append_left hx] at hf
    exact hA f (List.mem_of_getElem? hf)
  · rw [List.getElem?_append_right (Nat.le_refl _), Nat.sub_self] at hf
    exact hX f hf
theorem place_hit {A C : List (Bs × α)} {s : Bs} {c : α} (hA : ∀ f ∈ A, less f.1 s = true) : placeOfName (A ++ (s, c) :: C) s = A.length :=
  place_mid hA (fun f hf => by
    simp at hf
    subst hf
    exact less_irrefl s)
theorem place_gap {A C : List (Bs × α)} {s : Bs} (hA : ∀ f ∈ A, less f.1 s = true) (hC : ∀ f ∈ C, less s f.1 = true) : placeOfName (A ++ C) s = A.length :=
  place_mid hA (fun f hf => less_asymm (hC f (List.mem_of_getElem? hf)))
theorem any_gap {A C : List (Bs × α)} {s : Bs} (hA : ∀ f ∈ A, less f.1 s = true) (hC : ∀ f ∈ C, less s f.1 = true) : ((A ++ C).any fun f => f.1 == s) = false := by
  rw [List.any_eq_false]
  intro f hf he
  have he' : f.1 = s := by simpa using he
  rcases List.mem_append.1 hf with h | h
  · exact less_ne (hA f h) he'
  · exact less_ne (hC f h) he'.symm
theorem fieldAt_mid {A C : List (Bs × α)} {s : Bs} {c : α} (hA : ∀ f ∈ A, less f.1 s = true) : fieldAt (A ++ (s, c) :: C) s = some c := by
  unfold fieldAt
  rw [any_mid, if_pos rfl, place_hit hA]
  simp
theorem fieldAt_some {fs : List (Bs × α)} {s : Bs} {c : α} (h : fieldAt fs s = some c) : (fs.any fun f => f.1 == s) = true := by
  unfold fieldAt at h
  split at h
  · assumption
  · cases h
theorem fieldAt_split {fs : List (Bs × α)} (hr : Rising fs) {s : Bs} {c : α} (h : fieldAt fs s = some c) :
    ∃ A C, fs = A ++ (s, c) :: C ∧ (∀ f ∈ A, less f.1 s = true) ∧ ∀ f ∈ C, less s f.1 = true := by
  obtain ⟨A, c', C, rfl, hp, hA, hC⟩ := rise_split hr (fieldAt_some h)
  rw [fieldAt_mid hA] at h
  cases h
  exact ⟨A, C, rfl, hA, hC⟩
theorem setAt_mid {A C : List (Bs × α)} {s : Bs} {c v : α} (hA : ∀ f ∈ A, less f.1 s = true) : setAt (A ++ (s, c) :: C) s v = A ++ (s, v) :: C := by
  unfold setAt
  rw [any_mid, if_pos rfl, place_hit hA, List.take_left, List.drop_append]
  simp
theorem setAt_gap {A C : List (Bs × α)} {s : Bs} {v : α} (hA : ∀ f ∈ A, less f.1 s = true) (hC : ∀ f ∈ C, less s f.1 = true) : setAt (A ++ C) s v = A ++ (s, v) :: C := by
  unfold setAt
  rw [any_gap hA hC, if_neg (by decide), place_gap hA hC, List.take_left, Nat.add_zero, List.drop_left]
theorem cutAt_mid {A C : List (Bs × α)} {s : Bs} {c : α} (hA : ∀ f ∈ A, less f.1 s = true) : cutAt (A ++ (s, c) :: C) s = A ++ C := by
  unfold cutAt
  rw [place_hit hA, List.take_left, List.drop_append]
  simp
theorem repl_mid {A C : List (Bs × α)} {s : Bs} {c v : α} (hA : ∀ f ∈ A, less f.1 s = true) (hC : ∀ f ∈ C, less s f.1 = true) : repl (A ++ (s, c) :: C) s v = A ++ (s, v) :: C := by
  unfold repl
  rw [List.map_append, List.map_cons]
  have e1 : (A.map fun f => if f.1 == s then (f.1, v) else f) = A := (List.map_congr_left (g := id) (fun f hf => by
    rw [if_neg (by simpa using less_ne (hA f hf))]
    rfl)).trans (List.map_id _)
  have e2 : (C.map fun f => if f.1 == s then (f.1, v) else f) = C := (List.map_congr_left (g := id) (fun f hf => by
    rw [if_neg (by simpa using (less_ne (hC f hf)).symm)]
    rfl)).trans (List.map_id _)
  rw [e1, e2]
  simp
theorem setAt_repl {fs : List (Bs × α)} (hr : Rising fs) {s : Bs} {c v : α} (h : fieldAt fs s = some c) : setAt fs s v = repl fs s v := by
  obtain ⟨A, C, rfl, hA, hC⟩ := fieldAt_split hr h
  rw [setAt_mid hA, repl_mid hA hC]
theorem repl_names (fs : List (Bs × α)) (s : Bs) (v : α) : (repl fs s v).map (·.1) = fs.map (·.1) := by
  unfold repl
  rw [List.map_map]
  refine List.map_congr_left fun f _ => ?_
  show (if f.1 == s then (f.1, v) else f).1 = f.1
  split <;> rfl
theorem place_names {fs gs : List (Bs × α)} (h : fs.map (·.1) = gs.map (·.1)) (s : Bs) : placeOfName fs s = placeOfName gs s ∧ (fs.any fun f => f.1 == s) = (gs.any fun f => f.1 == s) := by
  have e : ∀ l : List (Bs × α), placeOfName l s = ((l.map (·.1)).takeWhile fun x => less x s).length := fun l => by
    unfold placeOfName
    rw [List.takeWhile_map, List.length_map]
    rfl
  have e2 : ∀ l : List (Bs × α), (l.any fun f => f.1 == s) = (l.map (·.1)).any fun x => x == s := fun l => by
    rw [List.any_map]
    rfl
  rw [e, e, e2, e2, h]
  exact ⟨rfl, rfl⟩
theorem rising_names {fs gs : List (Bs × α)} (h : fs.map (·.1) = gs.map (·.1)) (hr : Rising fs) : Rising gs := by
  have e : ∀ l : List (Bs × α), Rising l ↔ (l.map (·.1)).Pairwise fun a b => less a b = true := fun l => by
    unfold Rising
    rw [List.pairwise_map]
  rw [e] at hr ⊢
  rw [← h]
  exact hr
theorem rising_repl {fs : List (Bs × α)} (hr : Rising fs) (s : Bs) (v : α) : Rising (repl fs s v) := rising_names (repl_names fs s v).symm hr
theorem fieldAt_repl {fs : List (Bs × α)} (hr : Rising fs) {s : Bs} {c v : α} (h : fieldAt fs s = some c) : fieldAt (repl fs s v) s = some v := by
  obtain ⟨A, C, rfl, hA, hC⟩ := fieldAt_split hr h
  rw [repl_mid hA hC, fieldAt_mid hA]
theorem fieldAt_other (fs : List (Bs × α)) {s t : Bs} {v : α} (hr : Rising fs) (h : t ≠ s) : fieldAt (repl fs s v) t = fieldAt fs t := by
  have hn := place_names (repl_names fs s v) t
  unfold fieldAt
  rw [hn.1, hn.2]
  split
  · rename_i ha
    obtain ⟨A, c, C, rfl, hp, hA, hC⟩ := rise_split hr ha
    rw [hp]
    unfold repl
    simp [h]
  · rfl
theorem repl_same {fs : List (Bs × α)} (hr : Rising fs) {s : Bs} {c : α} (h : fieldAt fs s = some c) : repl fs s c = fs := by
  obtain ⟨A, C, rfl, hA, hC⟩ := fieldAt_split hr h
  rw [repl_mid hA hC]
theorem repl_twice (fs : List (Bs × α)) (s : Bs) (v w : α) : repl (repl fs s v) s w = repl fs s w := by
  unfold repl
  rw [List.map_map]
  refine List.map_congr_left fun f _ => ?_
  simp only [Function.comp]
  by_cases h : f.1 == s
  · simp [h]
  · simp [h]
theorem repl_comm (fs : List (Bs × α)) {s t : Bs} (v w : α) (h : s ≠ t) : repl (repl fs s v) t w = repl (repl fs t w) s v := by
  unfold repl
  rw [List.map_map, List.map_map]
  refine List.map_congr_left fun f _ => ?_
  simp only [Function.comp]
  by_cases h1 : f.1 = s
  · have h2 : ¬ f.1 = t := fun e => h (h1.symm.trans e)
    simp [h1, h2, h]
  · by_cases h2 : f.1 = t
    · simp [h1, h2, Ne.symm h]
    · simp [h1, h2]
theorem mem_repl {fs : List (Bs × α)} {s : Bs} {v : α} {f : Bs × α} (h : f ∈ repl fs s v) : ∃ g ∈ fs, f.1 = g.1 ∧ (f.2 = v ∨ f.2 = g.2) := by
  obtain ⟨g, hg, rfl⟩ := List.mem_map.1 h
  by_cases hs : g.1 == s
  · exact ⟨g, hg, by rw [if_pos hs], Or.inl (by rw [if_pos hs])⟩
  · exact ⟨g, hg, by rw [if_neg hs], Or.inr (by rw [if_neg hs])⟩
theorem fieldAt_mem {fs : List (Bs × α)} {s : Bs} {c : α} (hr : Rising fs) (h : fieldAt fs s = some c) : (s, c) ∈ fs := by
  obtain ⟨A, C, rfl, hA, hC⟩ := fieldAt_split hr h
  simp
end
/-! One step. -/
/-- what a step leads to -/
def childP {n : Nat} (j : J (n + 1)) (s : Bs) : Option (J n) :=
  match j with
  | Sum.inl _ => none
  | Sum.inr (Sum.inl xs) => (placeP s).bind fun i => xs[i]?
  | Sum.inr (Sum.inr fs) => fieldAt fs s
/-- with another value there -/
def replP {n : Nat} (j : J (n + 1)) (s : Bs) (c : J n) : J (n + 1) :=
  match j with
  | Sum.inl l => Sum.inl l
  | Sum.inr (Sum.inl xs) => match placeP s with
    | none => Sum.inr (Sum.inl xs)
    | some i => Sum.inr (Sum.inl (xs.set i c))
  | Sum.inr (Sum.inr fs) => Sum.inr (Sum.inr (repl fs s c))
/-- the place at which something is put into a list -/
def putIdx (len : Nat) (s : Bs) : Option Nat := if s = [45] then some len else (placeP s).bind fun i => if i ≤ len then some i else none
/-- what is put there -/
def putAt {n : Nat} (j : J (n + 1)) (s : Bs) (c : J n) : Except Nat (J (n + 1)) :=
  match j with
  | Sum.inl _ => .error eNone
  | Sum.inr (Sum.inl xs) => match putIdx xs.length s with
    | none => .error eNone
    | some i => .ok (Sum.inr (Sum.inl (xs.take i ++ c :: xs.drop (i + 1))))
  | Sum.inr (Sum.inr fs) => .ok (Sum.inr (Sum.inr (setAt fs s c)))
/-- what is cut there -/
def cutE {n : Nat} (j : J (n + 1)) (s : Bs) : Except Nat (J (n + 1)) :=
  match j with
  | Sum.inl _ => .error eNone
  | Sum.inr (Sum.inl xs) => match placeP s with
    | none => .error eNone
    | some i => if i < xs.length then .ok (Sum.inr (Sum.inl (xs.take i ++ xs.drop (i + 1)))) else .error eNone
  | Sum.inr (Sum.inr fs) => if fs.any (fun f => f.1 == s) then .ok (Sum.inr (Sum.inr (cutAt fs s))) else .error eNone
/-- the fields of all objects rise -/
def Rise : (n : Nat) → J n → Prop
  | 0, _ => True
  | _ + 1, Sum.inl _ => True
  | n + 1, Sum.inr (Sum.inl xs) => ∀ x ∈ xs, Rise n x
  | n + 1, Sum.inr (Sum.inr fs) => Rising fs ∧ ∀ f ∈ fs, Rise n f.2
theorem rise_of_good : ∀ (n : Nat) (j : J n), Good n j → Rise n j
  | 0, _, _ => trivial
  | _ + 1, Sum.inl _, _ => trivial
  | n + 1, Sum.inr (Sum.inl xs), h => fun x hx => rise_of_good n x (h x hx)
  | n + 1, Sum.inr (Sum.inr fs), h => ⟨h.1, fun f hf => rise_of_good n f.2 (h.2 f hf).2⟩
section
variable {n : Nat} {j : J (n + 1)} {s t : Bs} {c d : J n}
theorem rise_child (hr : Rise (n + 1) j) (h : childP j s = some c) : Rise n c := by
  match j, hr, h with
  | Sum.inr (Sum.inl xs), hr, h =>
    obtain ⟨i, hi, hx⟩ := Option.bind_eq_some_iff.1 (show ((placeP s).bind fun i => xs[i]?) = some c from h)
    exact hr c (List.mem_of_getElem? hx)
  | Sum.inr (Sum.inr fs), hr, h => exact hr.2 (s, c) (fieldAt_mem hr.1 h)
theorem good_child (hr : Good (n + 1) j) (h : childP j s = some c) : Good n c := by
  match j, hr, h with
  | Sum.inl _, hr, h =>
    have h : (none : Option (J n)) = some c := h
    cases h
  | Sum.inr (Sum.inl xs), hr, h =>
    obtain ⟨i, hi, hx⟩ := Option.bind_eq_some_iff.1 (show ((placeP s).bind fun i => xs[i]?) = some c from h)
    exact hr c (List.mem_of_getElem? hx)
  | Sum.inr (Sum.inr fs), hr, h => exact (hr.2 (s, c) (fieldAt_mem hr.1 h)).2
theorem put_list {xs : List (J n)} {i : Nat} (hi : placeP s = some i) (hl : i < xs.length) : putAt (Sum.inr (Sum.inl xs)) s d = .ok (replP (Sum.inr (Sum.inl xs)) s d) := by
    have hne : s ≠ [45] := by
      rintro rfl
      rw [placeP_dash] at hi
      cases hi
    have hp : putIdx xs.length s = some i := by
      unfold putIdx
      rw [if_neg hne, hi, Option.bind_some, if_pos (by omega)]
    unfold putAt replP
    simp only [hp, hi]
    rw [List.set_eq_take_append_cons_drop, if_pos hl]
set_option maxRecDepth 10000 in
theorem put_repl (hr : Rise (n + 1) j) (h : childP j s = some c) : putAt j s d = .ok (replP j s d) := by
  match j, hr, h with
  | Sum.inr (Sum.inl xs), hr, h =>
    obtain ⟨i, hi, hx⟩ := Option.bind_eq_some_iff.1 (show ((placeP s).bind fun i => xs[i]?) = some c from h)
    obtain ⟨hl, _⟩ := List.getElem?_eq_some_iff.1 hx
    exact put_list hi hl
  | Sum.inr (Sum.inr fs), hr, h =>
    show Except.ok (Sum.inr (Sum.inr (setAt fs s d))) = Except.ok (Sum.inr (Sum.inr (repl fs s d)))
    rw [setAt_repl hr.1 h]
theorem child_repl (hr : Rise (n + 1) j) (h : childP j s = some c) : childP (replP j s d) s = some d := by
  match j, hr, h with
  | Sum.inr (Sum.inl xs), hr, h =>
    obtain ⟨i, hi, hx⟩ := Option.bind_eq_some_iff.1 (show ((placeP s).bind fun i => xs[i]?) = some c from h)
    obtain ⟨hl, _⟩ := List.getElem?_eq_some_iff.1 hx
    unfold replP
    simp only [hi]
    show ((placeP s).bind fun k => (xs.set i d)[k]?) = some d
    rw [hi]
    simp [hl]
  | Sum.inr (Sum.inr fs), hr, h => exact fieldAt_repl hr.1 h
theorem child_other (hr : Rise (n + 1) j) (hne : t ≠ s) : childP (replP j s d) t = childP j t := by
  match j, hr with
  | Sum.inl _, hr => rfl
  | Sum.inr (Sum.inl xs), hr =>
    unfold replP
    cases hi : placeP s with
    | none => rfl
    | some i =>
      simp only []
      show ((placeP t).bind fun k => (xs.set i d)[k]?) = (placeP t).bind fun k => xs[k]?
      cases hk : placeP t with
      | none => rfl
      | some k =>
        have hik : i ≠ k := by
          rintro rfl
          exact hne (placeP_inj hk hi)
        simp only [Option.bind_some]
        rw [List.getElem?_set_ne hik]
  | Sum.inr (Sum.inr fs), hr => exact fieldAt_other fs hr.1 hne
theorem repl_child (hr : Rise (n + 1) j) (h : childP j s = some c) : replP j s c = j := by
  match j, hr, h with
  | Sum.inr (Sum.inl xs), hr, h =>
    obtain ⟨i, hi, hx⟩ := Option.bind_eq_some_iff.1 (show ((placeP s).bind fun i => xs[i]?) = some c from h)
    obtain ⟨hl, hx'⟩ := List.getElem?_eq_some_iff.1 hx
    unfold replP
    simp only [hi]
    rw [← hx', List.set_getElem_self hl]
  | Sum.inr (Sum.inr fs), hr, h =>
    show Sum.inr (Sum.inr (repl fs s c)) = (Sum.inr (Sum.inr fs) : J (n + 1))
    rw [repl_same hr.1 h]
theorem replP_twice : replP (replP j s c) s d = replP j s d := by
  match j with
  | Sum.inl _ => rfl
  | Sum.inr (Sum.inl xs) =>
    unfold replP
    cases hi : placeP s with
    | none => rfl
    | some i =>
      simp only []
      rw [List.set_set]
  | Sum.inr (Sum.inr fs) =>
    show Sum.inr (Sum.inr (repl (repl fs s c) s d)) = (Sum.inr (Sum.inr (repl fs s d)) : J (n + 1))
    rw [repl_twice]
theorem replP_comm (hne : s ≠ t) : replP (replP j s c) t d = replP (replP j t d) s c := by
  match j with
  | Sum.inl _ => rfl
  | Sum.inr (Sum.inl xs) =>
    unfold replP
    cases hi : placeP s with
    | none =>
      cases hk : placeP t with
      | none => rfl
      | some k => rfl
    | some i =>
      cases hk : placeP t with
      | none => rfl
      | some k =>
        have hik : i ≠ k := by
          rintro rfl
          exact hne (placeP_inj hi hk)
        simp only []
        rw [List.set_comm _ _ hik]
  | Sum.inr (Sum.inr fs) =>
    show Sum.inr (Sum.inr (repl (repl fs s c) t d)) = (Sum.inr (Sum.inr (repl (repl fs t d) s c)) : J (n + 1))
    rw [repl_comm fs c d hne]
theorem rise_repl (hr : Rise (n + 1) j) (hd : Rise n d) : Rise (n + 1) (replP j s d) := by
  match j, hr with
  | Sum.inl _, hr => exact trivial
  | Sum.inr (Sum.inl xs), hr =>
    unfold replP
    cases hi : placeP s with
    | none => exact hr
    | some i =>
      intro x hx
      rcases List.mem_or_eq_of_mem_set hx with h | rfl
      · exact hr x h
      · exact hd
  | Sum.inr (Sum.inr fs), hr =>
    refine ⟨rising_repl hr.1 s d, fun f hf => ?_⟩
    obtain ⟨g, hg, _, h | h⟩ := mem_repl hf
    · rw [h]; exact hd
    · rw [h]; exact hr.2 g hg
theorem good_repl (hr : Good (n + 1) j) (hd : Good n d) : Good (n + 1) (replP j s d) := by
  match j, hr with
  | Sum.inl _, hr => exact hr
  | Sum.inr (Sum.inl xs), hr =>
    unfold replP
    cases hi : placeP s with
    | none => exact hr
    | some i =>
      intro x hx
      rcases List.mem_or_eq_of_mem_set hx with h | rfl
      · exact hr x h
      · exact hd
  | Sum.inr (Sum.inr fs), hr =>
    refine ⟨rising_repl hr.1 s d, fun f hf => ?_⟩
    obtain ⟨g, hg, h1, h | h⟩ := mem_repl hf
    · exact ⟨by rw [h1]; exact (hr.2 g hg).1, by rw [h]; exact hd⟩
    · exact ⟨by rw [h1]; exact (hr.2 g hg).1, by rw [h]; exact (hr.2 g hg).2⟩
end
/-! Several steps. -/
/-- what steps lead to -/
def getP : (n : Nat) → J n → List Bs → Option (J n)
  | n, j, [] => some j
  | 0, _, _ :: _ => none
  | n + 1, j, s :: r => (childP j s).bind fun c => (getP n c r).map (lift n (n + 1))
/-- what is made of it by what is done where the steps lead -/
def changeP : (n : Nat) → J n → List Bs → ((m : Nat) → J m → Except Nat (J m)) → Except Nat (J n)
  | n, j, [], e => e n j
  | 0, _, _ :: _, _ => .error eNone
  | n + 1, j, s :: r, e => match childP j s with
    | none => .error eNone
    | some c => match changeP n c r e with
      | .error x => .error x
      | .ok c' => putAt j s c'
/-- with another value where the steps lead -/
def setP : (n : Nat) → J n → List Bs → ((m : Nat) → J m) → J n
  | n, _, [], it => it n
  | 0, j, _ :: _, _ => j
  | n + 1, j, s :: r, it => match childP j s with
    | none => j
    | some c => replP j s (setP n c r it)
def putEnd (it : (m : Nat) → J m) (s : Bs) : (m : Nat) → J m → Except Nat (J m)
  | 0, _ => .error eNone
  | m + 1, j => putAt j s (it m)
def cutEnd (s : Bs) : (m : Nat) → J m → Except Nat (J m)
  | 0, _ => .error eNone
  | _ + 1, j => cutE j s
theorem getP_step {n : Nat} {j : J (n + 1)} {s : Bs} {r : List Bs} {c : J (n + 1)} (h : getP (n + 1) j (s :: r) = some c) : ∃ c1 c2, childP j s = some c1 ∧ getP n c1 r = some c2 ∧ c = lift n (n + 1) c2 := by
  obtain ⟨c1, h1, h2⟩ := Option.bind_eq_some_iff.1 (show ((childP j s).bind fun c => (getP n c r).map (lift n (n + 1))) = some c from h)
  obtain ⟨c2, h3, h4⟩ := Option.map_eq_some_iff.1 h2
  exact ⟨c1, c2, h1, h3, h4.symm⟩
/-- put where there is something: it is that, instead -/
theorem change_put (it : (m : Nat) → J m) (s : Bs) : ∀ (l : List Bs) (n : Nat) (j : J n) (c : J n), Rise n j → getP n j (l ++ [s]) = some c → changeP n j l (putEnd it s) = .ok (setP n j (l ++ [s]) it)
  | [], 0, j, c, hr, h => by cases h
  | [], n + 1, j, c, hr, h => by
    obtain ⟨c1, c2, h1, h2, rfl⟩ := getP_step h
    show putAt j s (it n) = .ok (match childP j s with
      | none => j
      | some c => replP j s (setP n c [] it))
    rw [h1, put_repl hr h1]
    cases n <;> rfl
  | t :: r, 0, j, c, hr, h => by cases h
  | t :: r, n + 1, j, c, hr, h => by
    obtain ⟨c1, c2, h1, h2, rfl⟩ := getP_step h
    have ih := change_put it s r n c1 c2 (rise_child hr h1) h2
    show (match childP j t with
      | none => Except.error eNone
      | some c => match changeP n c r (putEnd it s) with
        | .error x => .error x
        | .ok c' => putAt j t c') = .ok (match childP j t with
      | none => j
      | some c => replP j t (setP n c (r ++ [s]) it))
    rw [h1]
    simp only [ih]
    rw [put_repl hr h1]
theorem set_get : ∀ (l : List Bs) (n : Nat) (j c : J n) (it : (m : Nat) → J m), Rise n j → getP n j l = some c → (∀ (m : Nat) (c0 : J m), m ≤ n → lift m n c0 = c → it m = c0) → setP n j l it = j
  | [], n, j, c, it, hr, h, hit => by
    have e : j = c := by cases n <;> exact Option.some.inj h
    have := hit n j (Nat.le_refl _) (by rw [lift_self, e])
    cases n <;> exact this
  | s :: r, 0, j, c, it, hr, h, hit => by cases h
  | s :: r, n + 1, j, c, it, hr, h, hit => by
    obtain ⟨c1, c2, h1, h2, rfl⟩ := getP_step h
    have ih := set_get r n c1 c2 it (rise_child hr h1) h2 (fun m c0 hm e => hit m c0 (by omega) (by
      rw [← e, lift_lift _ _ _ _ (Nat.le_trans (depth_bound m c0) hm)]))
    show (match childP j s with
      | none => j
      | some c => replP j s (setP n c r it)) = j
    rw [h1]
    simp only [ih]
    exact repl_child hr h1
/-- one list of steps begins another -/
def begins (a b : List Bs) : Prop := ∃ r, b = a ++ r
theorem rise_set (it : (m : Nat) → J m) (hit : ∀ m, Rise m (it m)) : ∀ (l : List Bs) (n : Nat) (j : J n), Rise n j → Rise n (setP n j l it)
  | [], n, j, hr => by cases n <;> exact hit _
  | s :: r, 0, j, hr => hr
  | s :: r, n + 1, j, hr => by
    show Rise (n + 1) (match childP j s with
      | none => j
      | some c => replP j s (setP n c r it))
    cases h : childP j s with
    | none => exact hr
    | some c => exact rise_repl hr (rise_set it hit r n c (rise_child hr h))
theorem good_set (it : (m : Nat) → J m) (hit : ∀ m, Good m (it m)) : ∀ (l : List Bs) (n : Nat) (j : J n), Good n j → Good n (setP n j l it)
  | [], n, j, hr => by cases n <;> exact hit _
  | s :: r, 0, j, hr => hr
  | s :: r, n + 1, j, hr => by
    show Good (n + 1) (match childP j s with
      | none => j
      | some c => replP j s (setP n c r it))
    cases h : childP j s with
    | none => exact hr
    | some c => exact good_repl hr (good_set it hit r n c (good_child hr h))
/-- what is put elsewhere leaves a place where it was -/
theorem get_other (it : (m : Nat) → J m) : ∀ (a b : List Bs) (n : Nat) (j c d : J n), Rise n j → (∀ m, Rise m (it m)) → getP n j a = some c → getP n j b = some d → ¬ begins a b → ∃ e, getP n (setP n j a it) b = some e
  | [], b, n, j, c, d, hr, hit, ha, hb, hne => absurd ⟨b, rfl⟩ hne
  | s :: a, [], n, j, c, d, hr, hit, ha, hb, hne => ⟨setP n j (s :: a) it, by cases n <;> rfl⟩
  | s :: a, t :: b, 0, j, c, d, hr, hit, ha, hb, hne => by cases ha
  | s :: a, t :: b, n + 1, j, c, d, hr, hit, ha, hb, hne => by
    obtain ⟨c1, c2, h1, h2, rfl⟩ := getP_step ha
    obtain ⟨d1, d2, g1, g2, rfl⟩ := getP_step hb
    have e : setP (n + 1) j (s :: a) it = replP j s (setP n c1 a it) := by
      show (match childP j s with
        | none => j
        | some c => replP j s (setP n c a it)) = _
      rw [h1]
    rw [e]
    by_cases hst : t = s
    · subst hst
      rw [h1] at g1
      cases g1
      obtain ⟨x, hx⟩ := get_other it a b n c1 c2 d2 (rise_child hr h1) hit h2 g2 (fun ⟨r, hr'⟩ => hne ⟨r, by rw [hr']; rfl⟩)
      refine ⟨lift n (n + 1) x, ?_⟩
      show ((childP (replP j t (setP n c1 a it)) t).bind fun c => (getP n c b).map (lift n (n + 1))) = _
      rw [child_repl hr h1, Option.bind_some, hx]
      rfl
    · refine ⟨lift n (n + 1) d2, ?_⟩
      show ((childP (replP j s (setP n c1 a it)) t).bind fun c => (getP n c b).map (lift n (n + 1))) = _
      rw [child_other hr hst, g1, Option.bind_some, g2]
      rfl
theorem set_comm (it iu : (m : Nat) → J m) : ∀ (a b : List Bs) (n : Nat) (j c d : J n), Rise n j → (∀ m, Rise m (it m)) → (∀ m, Rise m (iu m)) → getP n j a = some c → getP n j b = some d → ¬ begins a b → ¬ begins b a → setP n (setP n j a it) b iu = setP n (setP n j b iu) a it
  | [], b, n, j, c, d, hr, hit, hiu, ha, hb, hne, hnf => absurd ⟨b, rfl⟩ hne
  | s :: a, [], n, j, c, d, hr, hit, hiu, ha, hb, hne, hnf => absurd ⟨s :: a, rfl⟩ hnf
  | s :: a, t :: b, 0, j, c, d, hr, hit, hiu, ha, hb, hne, hnf => by cases ha
  | s :: a, t :: b, n + 1, j, c, d, hr, hit, hiu, ha, hb, hne, hnf => by
    obtain ⟨c1, c2, h1, h2, rfl⟩ := getP_step ha
    obtain ⟨d1, d2, g1, g2, rfl⟩ := getP_step hb
    have e : ∀ (i : J (n + 1)) (u : Bs) (l : List Bs) (v : (m : Nat) → J m) (x : J n), childP i u = some x → setP (n + 1) i (u :: l) v = replP i u (setP n x l v) := fun i u l v x hx => by
      show (match childP i u with
        | none => i
        | some c => replP i u (setP n c l v)) = _
      rw [hx]
    rw [e j s a it c1 h1, e j t b iu d1 g1]
    by_cases hst : t = s
    · subst hst
      rw [h1] at g1
      cases g1
      rw [e _ t b iu _ (child_repl hr h1), e _ t a it _ (child_repl hr h1), replP_twice, replP_twice]
      rw [set_comm it iu a b n c1 c2 d2 (rise_child hr h1) hit hiu h2 g2 (fun ⟨r, hr'⟩ => hne ⟨r, by rw [hr']; rfl⟩) (fun ⟨r, hr'⟩ => hnf ⟨r, by rw [hr']; rfl⟩)]
    · rw [e _ t b iu d1 (by rw [child_other hr hst]; exact g1), e _ s a it c1 (by rw [child_other hr (Ne.symm hst)]; exact h1)]
      exact replP_comm (Ne.symm hst)
end Go.Proofs.YthdgfehfoidnbabGreatDoor
/- That other memory stays: plain facts on worlds. -/
namespace Go.Proofs.YthdgfehfoidnbabGreatDoor
open Go.RowKit
set_option linter.unusedVariables false
set_option linter.unusedSimpArgs false
/-- Of what was there all blocks but b are as they were. -/
def G (b : Nat) (w w' : World) : Prop := w.grownBy w' (some b)
theorem G.refl (b : Nat) (w : World) : G b w w := ⟨rfl, rfl, rfl, Nat.le_refl _, fun _ _ _ => rfl⟩
theorem G.trans {b : Nat} {x y z : World} (h : G b x y) (g : G b y z) : G b x z :=
  ⟨g.os.trans h.os, g.tape.trans h.tape, g.output.trans h.output, Nat.le_trans h.size g.size, fun k hk hb => (g.block k (Nat.lt_of_lt_of_le hk h.size) hb).trans (h.block k hk hb)⟩
theorem G.drew {b : Nat} {x y : World} (h : G b x y) : G b x y.drew := ⟨h.os, h.tape, h.output, h.size, h.block⟩
theorem G.drewN {b : Nat} {x y : World} (h : G b x y) (n : Nat) : G b x (y.drewN n) := ⟨h.os, h.tape, h.output, h.size, h.block⟩
theorem drewN_two (w : World) (m n : Nat) : (w.drewN m).drewN n = w.drewN (m + n) := by simp [World.drewN, Nat.add_assoc]
theorem G.setCell {b : Nat} {x y : World} (h : G b x y) (o : Nat) (v : Value) : G b x (y.setCell ⟨b, o, none⟩ v) :=
  h.trans ⟨rfl, rfl, rfl, by simp [World.setCell], fun k _ hb => heap_setCell_other _ _ _ _ (fun e => hb (by rw [e]))⟩
theorem G.alloc {b : Nat} {x y : World} (h : G b x y) (o : Obj) : G b x (y.alloc o) := h.trans (World.grownBy_alloc y o (some b))
theorem below_of_new {w w' : World} {o : Obj} (g : G w.heap.size (w.alloc o) w') : Below w.heap.size w w' :=
  ⟨g.os, g.tape, g.output, by have := g.size; simp at this; omega, fun k hk => (g.block k (by simp; omega) (fun e => by cases e; omega)).trans (Below.heap_alloc w o k hk)⟩
theorem below_of_G {b : Nat} {w w' : World} (g : G b w w') (hb : b < w.heap.size) : Below b w w' :=
  ⟨g.os, g.tape, g.output, g.size, fun k hk => g.block k (by omega) (fun e => by cases e; omega)⟩
end Go.Proofs.YthdgfehfoidnbabGreatDoor
