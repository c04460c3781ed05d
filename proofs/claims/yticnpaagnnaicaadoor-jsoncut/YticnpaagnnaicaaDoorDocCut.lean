/- Plain facts: what begins what is told, and isn't all of it, is not read: but for a number, which may be cut shorter. -/
import Derived.Test.YticnpaagnnaicaaDoorDocSize
namespace Go.Proofs.YticnpaagnnaicaaDoor
set_option linter.unusedVariables false
set_option linter.unusedSimpArgs false
/-- p begins x, and isn't all of it -/
def Begins (p x : Bs) : Prop := ∃ c q, p ++ c :: q = x
/-- what comes of reading p: a fault of form, or (a number cut short) all of p -/
def Cut (m k : Nat) (num : Prop) (p : Bs) : Prop := value m k p = .error 3 ∨ (num ∧ ∃ j k', value m k p = .ok (j, k', []))
theorem begins_cons {p x : Bs} {c : UInt8} (h : Begins p (c :: x)) : p = [] ∨ ∃ p', p = c :: p' ∧ Begins p' x := by
  obtain ⟨d, q, h⟩ := h
  cases p with
  | nil => exact Or.inl rfl
  | cons y p' =>
    simp only [List.cons_append, List.cons.injEq] at h
    obtain ⟨rfl, h⟩ := h
    exact Or.inr ⟨p', rfl, d, q, h⟩
theorem begins_append {p : Bs} : ∀ {x y : Bs}, Begins p (x ++ y) → Begins p x ∨ ∃ p', p = x ++ p' ∧ Begins p' y := by
  induction p with
  | nil =>
    intro x y h
    cases x with
    | nil => exact Or.inr ⟨[], rfl, h⟩
    | cons c x => exact Or.inl ⟨c, x, rfl⟩
  | cons a p ih =>
    intro x y h
    cases x with
    | nil => exact Or.inr ⟨a :: p, rfl, h⟩
    | cons c x =>
      rcases begins_cons h with h | ⟨p', hp, h⟩
      · cases h
      · cases hp
        rcases ih h with ⟨d, q, e⟩ | ⟨p', hp', h'⟩
        · exact Or.inl ⟨d, q, by simp [e]⟩
        · exact Or.inr ⟨p', by rw [hp']; rfl, h'⟩
theorem begins_one {p : Bs} {c : UInt8} (h : Begins p [c]) : p = [] := by
  rcases begins_cons h with h | ⟨p', rfl, d, q, e⟩
  · exact h
  · simp at e
theorem begins_nil {p : Bs} (h : Begins p []) : False := by
  obtain ⟨c, q, e⟩ := h
  simp at e
theorem value_nil (m k : Nat) : value m k [] = .error 3 := by
  have e : beginE m k (skip []) = 3 := by
    show beginE m k [] = 3
    unfold beginE
    rw [if_pos (show ¬ hd [] ∈ opens from by show ¬ (0 : UInt8) ∈ opens; decide)]
  cases m with
  | zero => rw [value, if_pos (by rw [e]; decide), e]
  | succ m => rw [value, if_pos (by rw [e]; decide), e]
theorem begins_hd {p x : Bs} (h : Begins p x) (hp : p ≠ []) : hd p = hd x := by
  obtain ⟨c, q, rfl⟩ := h
  cases p with
  | nil => exact absurd rfl hp
  | cons a p => rfl
theorem isPrefix_short {w p : Bs} (h : Begins p w) : w.isPrefixOf p = false := by
  cases he : w.isPrefixOf p with
  | false => rfl
  | true =>
    have h1 := (List.isPrefixOf_iff_prefix.1 he).length_le
    obtain ⟨c, q, rfl⟩ := h
    simp at h1
    omega
theorem signs_cut : ∀ (nm p : Bs), (∀ c ∈ nm, meant c = true) → Begins p (nm.flatMap quoteB ++ [34]) → signs p = none
  | [], p, hm, h => by
    have := begins_one (p := p) (c := 34) (by simpa using h)
    subst this
    rfl
  | c :: nm, p, hm, h => by
    have ih := fun p' => signs_cut nm p' (fun d hd => hm d (by simp [hd]))
    have e : (c :: nm).flatMap quoteB ++ [34] = quoteB c ++ (nm.flatMap quoteB ++ [34]) := by simp
    rw [e] at h
    rcases quoteB_cases c (hm c (by simp)) with ⟨hq, h34, h92, hp⟩ | ⟨d, hq, hd0, hc0⟩
    · have hs := fun r => signs_quoteB c (hm c (by simp)) r
      rw [hq] at h hs
      rcases begins_cons h with h0 | ⟨p', h0, h'⟩
      · subst h0; rfl
      · subst h0
        have := hs p'
        rw [ih p' h'] at this
        exact this
    · have hs := fun r => signs_quoteB c (hm c (by simp)) r
      rw [hq] at h hs
      rcases begins_cons h with h0 | ⟨p', h0, h'⟩
      · subst h0; rfl
      · subst h0
        rcases begins_cons h' with h1 | ⟨p'', h1, h''⟩
        · subst h1; rfl
        · subst h1
          have := hs p''
          rw [ih p'' h''] at this
          exact this
theorem quoted_cut (nm p : Bs) (hm : ∀ c ∈ nm, meant c = true) (h : Begins p (quote nm)) : quoted p = none := by
  unfold quote at h
  rcases begins_cons h with h0 | ⟨p', h0, h'⟩
  · subst h0; rfl
  · subst h0
    unfold quoted
    rw [if_pos (show hd (34 :: p') = 34 from rfl)]
    exact signs_cut nm p' hm h'
theorem skip_begins {p x : Bs} (h : Begins p x) (hb : blank (hd x) = false) : skip p = p := by
  by_cases hp : p = []
  · subst hp
    rfl
  · exact skip_not (by rw [begins_hd h hp]; exact hb)
/-- the first byte of what is cut -/
theorem value_cut_leaf {m k : Nat} {p x : Bs} {num : Prop} (h : Begins p x) (hp : p ≠ []) (hb : blank (hd x) = false) (ho : hd x ∈ opens) (h91 : hd x ≠ 91) (h123 : hd x ≠ 123) (hk : k < 200)
    (hl : leafE p = .error 3 ∨ (num ∧ ∃ l, leafE p = .ok (l, []))) : Cut m k num p := by
  have hh := begins_hd h hp
  have hsk := skip_begins h hb
  have e : beginE m k (skip p) = 0 := by
    rw [hsk]
    unfold beginE
    rw [if_neg (by rw [hh]; simpa using ho), if_neg (by omega), if_neg]
    rintro ⟨_, h1 | h1⟩
    · exact h91 (hh ▸ h1)
    · exact h123 (hh ▸ h1)
  have hval : value m k p = leafAt m k p := by
    cases m with
    | zero => rw [value, if_neg (by simp [e]), hsk]
    | succ m => rw [value, if_neg (by simp [e]), hsk, if_neg (by rw [hh]; exact h91), if_neg (by rw [hh]; exact h123)]
  unfold Cut
  rw [hval]
  unfold leafAt
  rcases hl with hl | ⟨hn, l, hl⟩
  · rw [hl]
    exact Or.inl rfl
  · rw [hl]
    exact Or.inr ⟨hn, _, _, rfl⟩
theorem word_cut {w p : Bs} (l : Leaf) (h : Begins p w) : word w p l = .error 3 := by
  unfold word
  rw [isPrefix_short h]
  rfl
theorem num_cut {i : Int} {p : Bs} (hi : i.natAbs < 10 ^ 18) (h : Begins p (Lib.itoa i)) (hp : p ≠ []) : number p = .error 3 ∨ ∃ l, number p = .ok (l, []) := by
  have hd : ∀ c ∈ Lib.decDigits i.natAbs, isDigit c = true := dec_digits 18 _ hi
  have hlen : (Lib.decDigits i.natAbs).length ≤ 18 := dec_len 18 _ (by omega) hi
  have hkey : ∃ r1 : Bs, (if (Go.Proofs.YticnpaagnnaicaaDoor.hd p == 45) = true then p.tail else p) = r1 ∧ (∀ c ∈ r1, isDigit c = true) ∧ r1.length ≤ 18 := by
    obtain ⟨c, q, e⟩ := h
    unfold Lib.itoa at e
    split at e
    · cases p with
      | nil => exact absurd rfl hp
      | cons a p' =>
        simp only [List.cons_append, List.cons.injEq] at e
        obtain ⟨rfl, e⟩ := e
        have hn : (-i).toNat = i.natAbs := by omega
        refine ⟨p', by rw [if_pos (show (Go.Proofs.YticnpaagnnaicaaDoor.hd ((45 : UInt8) :: p') == 45) = true from rfl)]; rfl, fun c hc => ?_, ?_⟩
        · apply hd
          first
            | (rw [hn] at e; rw [← e]; simp [hc])
            | (rw [← e]; simp [hc])
        · have := congrArg List.length e
          simp only [List.length_append, List.length_cons] at this
          first
            | omega
            | (rw [hn] at this; omega)
    · have hn : i.toNat = i.natAbs := by omega
      have h45 : Go.Proofs.YticnpaagnnaicaaDoor.hd p ≠ 45 := by
        intro h45
        cases p with
        | nil => exact absurd rfl hp
        | cons a p' =>
          have ha : a = 45 := h45
          subst ha
          have hm : (45 : UInt8) ∈ Lib.decDigits i.natAbs := by
            first
              | (rw [hn] at e; rw [← e]; simp)
              | (rw [← e]; simp)
          exact absurd (hd _ hm) (by decide)
      refine ⟨p, by rw [if_neg (by simpa using h45)], fun c hc => ?_, ?_⟩
      · apply hd
        first
          | (rw [hn] at e; rw [← e]; simp [hc])
          | (rw [← e]; simp [hc])
      · have := congrArg List.length e
        simp only [List.length_append, List.length_cons] at this
        first
          | omega
          | (rw [hn] at this; omega)
  obtain ⟨r1, e1, hall, hl⟩ := hkey
  have htd := take_digits hall noDigit_nil
  rw [List.append_nil] at htd
  obtain ⟨ht, hdr⟩ := htd
  unfold number
  simp only []
  rw [e1, ht, hdr]
  split
  · exact Or.inl rfl
  · split
    · exact Or.inl rfl
    · rw [if_neg (by omega)]
      exact Or.inr ⟨_, rfl⟩
theorem itoa_hd (i : Int) (hi : i.natAbs < 10 ^ 18) : hd (Lib.itoa i) = 45 ∨ isDigit (hd (Lib.itoa i)) = true := by
  have hdg : ∀ c ∈ Lib.decDigits i.natAbs, isDigit c = true := dec_digits 18 _ hi
  unfold Lib.itoa
  split
  · exact Or.inl rfl
  · refine Or.inr ?_
    have hn : i.toNat = i.natAbs := by omega
    rw [hn]
    have hne := dec_ne i.natAbs
    cases hl : Lib.decDigits i.natAbs with
    | nil => exact absurd hl hne
    | cons a l =>
      rw [hl] at hdg
      exact hdg a (by simp)
theorem cut_leaf (m k : Nat) (l : Leaf) (h : GoodLeaf l) (hk : k < 200) (p : Bs) (hb : Begins p (tellLeaf l)) : Cut m k (kindLeaf l = 3) p := by
  by_cases hp : p = []
  · subst hp
    exact Or.inl (value_nil m k)
  have hf := leafE_tell l h [] noDigit_nil
  rw [List.append_nil] at hf
  obtain ⟨_, ho, hbl, h91, h123⟩ := hf
  have hh := begins_hd hb hp
  refine value_cut_leaf hb hp hbl ho h91 h123 hk ?_
  match l, h, hb, hh with
  | none, h, hb, hh =>
    left
    unfold leafE
    rw [if_pos (by rw [hh]; rfl)]
    exact word_cut none hb
  | some (Sum.inl true), h, hb, hh =>
    left
    unfold leafE
    rw [if_neg (by rw [hh]; decide), if_pos (by rw [hh]; rfl)]
    exact word_cut _ hb
  | some (Sum.inl false), h, hb, hh =>
    left
    unfold leafE
    rw [if_neg (by rw [hh]; decide), if_neg (by rw [hh]; decide), if_pos (by rw [hh]; rfl)]
    exact word_cut _ hb
  | some (Sum.inr (Sum.inr s)), h, hb, hh =>
    left
    have e34 : hd p = 34 := by rw [hh]; rfl
    unfold leafE
    rw [if_neg (by rw [e34]; decide), if_neg (by rw [e34]; decide), if_neg (by rw [e34]; decide), if_pos e34]
    unfold textE
    rw [quoted_cut s p h hb]
  | some (Sum.inr (Sum.inl i)), h, hb, hh =>
    have hi : i.natAbs < 10 ^ 18 := by
      have h1 : -1000000000000000000 < i := h.1
      have h2 : i < 1000000000000000000 := h.2
      omega
    have hi2 : hd (tellLeaf (some (Sum.inr (Sum.inl i)))) = 45 ∨ isDigit (hd (tellLeaf (some (Sum.inr (Sum.inl i))))) = true := itoa_hd i hi
    have hne : ∀ c : UInt8, c ≠ 45 → isDigit c = false → hd p ≠ c := by
      intro c h45 hdc e
      rw [hh] at e
      rcases hi2 with h0 | h0
      · exact h45 (e ▸ h0)
      · rw [e, hdc] at h0
        cases h0
    have e : leafE p = number p := by
      unfold leafE
      rw [if_neg (hne 110 (by decide) (by decide)), if_neg (hne 116 (by decide) (by decide)), if_neg (hne 102 (by decide) (by decide)), if_neg (hne 34 (by decide) (by decide))]
    rw [e]
    rcases num_cut hi hb hp with h0 | h0
    · exact Or.inl h0
    · exact Or.inr ⟨rfl, h0⟩
/-- every value of depth n that is told and cut -/
def CutAt (n : Nat) : Prop := ∀ (j : J n), Good n j → ∀ (m k : Nat) (p : Bs), k + nodes n j ≤ 200 → depth n j ≤ m → Begins p (tell n j) → Cut m k (kindJ n j = 3) p
theorem rowGo_end {σ : Type} {z : UInt8} {one : σ → Nat → Bs → Except Nat (σ × Nat × Bs)} {f k k' : Nat} {s s' : σ} {p : Bs} (hz : z ≠ 0) (h : one s k p = .ok (s', k', [])) : rowGo z one (f + 1) s k p = .error 3 := by
  rw [rowGo, h]
  simp only []
  have e : hd (skip []) = 0 := rfl
  rw [e, if_neg (fun e => hz e.symm), if_neg (by decide)]
theorem rowGo_next {σ : Type} {z : UInt8} {one : σ → Nat → Bs → Except Nat (σ × Nat × Bs)} {f k k' : Nat} {s s' : σ} {p p' : Bs} (hz : z ≠ 44) (h : one s k p = .ok (s', k', 44 :: p')) : rowGo z one (f + 1) s k p = rowGo z one f s' k' p' := by
  rw [rowGo, h]
  simp only []
  have e : skip (44 :: p') = 44 :: p' := skip_not rfl
  rw [e, if_neg (show ¬ hd (44 :: p') = z from fun e => hz e.symm), if_pos (show hd (44 :: p') = 44 from rfl), List.tail_cons]
theorem rowGo_err3 {σ : Type} {z : UInt8} {one : σ → Nat → Bs → Except Nat (σ × Nat × Bs)} {f k : Nat} {s : σ} {p : Bs} (h : one s k p = .error 3) : rowGo z one f s k p = .error 3 := by
  cases f with
  | zero => rfl
  | succ f => rw [rowGo, h]
theorem item_ok {m k k' : Nat} {s : List (J m)} {p r : Bs} {v : J m} (h : value m k p = .ok (v, k', r)) : oneItem (value m) s k p = .ok (s ++ [v], k', r) := by rw [oneItem, h]
theorem item_err {m k : Nat} {s : List (J m)} {p : Bs} (h : value m k p = .error 3) : oneItem (value m) s k p = .error 3 := by rw [oneItem, h]
theorem told_room {n : Nat} {j : J n} (hG : Good n j) {m k : Nat} {r : Bs} (hr : noDigit r) (hk : k + nodes n j ≤ 200) (hd' : depth n j ≤ m) : ∃ v, value m k (tell n j ++ r) = .ok (v, k + nodes n j, r) := by
  rcases told_any n j hG m k r hr (by omega) with ⟨v, hv, _⟩ | ⟨_, h⟩ | ⟨_, h⟩
  · exact ⟨v, hv⟩
  · omega
  · omega
theorem cut_items {n : Nat} (ih : CutAt n) (m : Nat) : ∀ (rest : List (J n)) (x : J n) (f : Nat) (s : List (J m)) (k : Nat) (p : Bs), (∀ y ∈ x :: rest, Good n y) → k + ((x :: rest).map (nodes n)).sum ≤ 200 → maxOf ((x :: rest).map (depth n)) ≤ m → Begins p (commas ((x :: rest).map (tell n)) ++ [93]) → rowGo 93 (oneItem (value m)) f s k p = .error 3
  | rest, x, 0, s, k, p, hG, hk, hm, hb => rfl
  | [], x, f + 1, s, k, p, hG, hk, hm, hb => by
    have hk' : k + nodes n x ≤ 200 := by simpa using hk
    have hm' : depth n x ≤ m := by simpa [maxOf] using hm
    have hx := hG x (by simp)
    rcases begins_append (x := tell n x) (y := [93]) hb with h | ⟨p', hp', h⟩
    · rcases ih x hx m k p hk' hm' h with hv | ⟨_, v, k', hv⟩
      · exact rowGo_err3 (item_err hv)
      · exact rowGo_end (by decide) (item_ok hv)
    · have := begins_one h
      subst this
      obtain ⟨v, hv⟩ := told_room hx noDigit_nil hk' hm'
      rw [← hp'] at hv
      exact rowGo_end (by decide) (item_ok hv)
  | y :: rest, x, f + 1, s, k, p, hG, hk, hm, hb => by
    have hk' : k + nodes n x + ((y :: rest).map (nodes n)).sum ≤ 200 := by
      simp only [List.map_cons, List.sum_cons] at hk ⊢
      omega
    have hmm : max (depth n x) (maxOf ((y :: rest).map (depth n))) ≤ m := hm
    have hx := hG x (by simp)
    have e : commas ((x :: y :: rest).map (tell n)) ++ [93] = tell n x ++ 44 :: (commas ((y :: rest).map (tell n)) ++ [93]) := by simp [commas]
    rw [e] at hb
    rcases begins_append hb with h | ⟨p', hp', h⟩
    · rcases ih x hx m k p (by omega) (by omega) h with hv | ⟨_, v, k', hv⟩
      · exact rowGo_err3 (item_err hv)
      · exact rowGo_end (by decide) (item_ok hv)
    · rcases begins_cons h with h0 | ⟨p'', h0, h''⟩
      · subst h0
        obtain ⟨v, hv⟩ := told_room (m := m) (k := k) hx noDigit_nil (by omega) (by omega)
        rw [← hp'] at hv
        exact rowGo_end (by decide) (item_ok hv)
      · subst h0
        obtain ⟨v, hv⟩ := told_room (m := m) (k := k) (r := 44 :: p'') hx (by show isDigit 44 = false; decide) (by omega) (by omega)
        rw [← hp'] at hv
        rw [rowGo_next (by decide) (item_ok hv)]
        exact cut_items ih m rest y f _ _ p'' (fun z hz => hG z (by simp at hz ⊢; exact Or.inr hz)) hk' (by omega) h''
theorem field_ok {m k k' : Nat} {s : List (Bs × J m)} {p p' r nm : Bs} {v : J m} (hn : nameE s p = .ok (nm, p')) (h : value m k p' = .ok (v, k', r)) : oneField (value m) s k p = .ok (insertAt s nm v, k', r) := by
  rw [oneField, hn]
  simp only [h]
theorem field_err {m k : Nat} {s : List (Bs × J m)} {p p' nm : Bs} (hn : nameE s p = .ok (nm, p')) (h : value m k p' = .error 3) : oneField (value m) s k p = .error 3 := by
  rw [oneField, hn]
  simp only [h]
theorem field_name {m k : Nat} {s : List (Bs × J m)} {p : Bs} (hn : nameE s p = .error 3) : oneField (value m) s k p = .error 3 := by
  rw [oneField, hn]
theorem name_cut {α : Type} {s : List (Bs × α)} {nm p X : Bs} (hm : ∀ c ∈ nm, meant c = true) (hs : ∀ g ∈ s, less g.1 nm = true) (h : Begins p (quote nm ++ 58 :: X)) : nameE s p = .error 3 ∨ ∃ p', nameE s p = .ok (nm, p') ∧ Begins p' X := by
  rcases begins_append h with h | ⟨p1, hp1, h⟩
  · left
    have hsk : skip p = p := skip_begins h rfl
    unfold nameE
    rw [hsk, quoted_cut nm p hm h]
  · rcases begins_cons h with h0 | ⟨p2, h0, h2⟩
    · left
      subst h0
      subst hp1
      have hsk : skip (quote nm ++ []) = quote nm ++ [] := skip_not rfl
      unfold nameE
      rw [hsk, quoted_quote nm hm []]
      simp only []
      rw [if_neg (by rw [any_of_less hs]; decide), if_neg (show ¬ hd (skip []) = 58 from by show ¬ (0 : UInt8) = 58; decide)]
    · right
      subst h0
      subst hp1
      exact ⟨p2, nameE_told hm hs, h2⟩
theorem cut_fields {n : Nat} (ih : CutAt n) (m : Nat) : ∀ (rest : List (Bs × J n)) (x : Bs × J n) (f : Nat) (s : List (Bs × J m)) (k : Nat) (p : Bs), (∀ y ∈ x :: rest, (∀ c ∈ y.1, meant c = true) ∧ Good n y.2) → Rising (x :: rest) → (∀ g ∈ s, ∀ y ∈ x :: rest, less g.1 y.1 = true) → k + ((x :: rest).map (fun f => nodes n f.2)).sum ≤ 200 → maxOf ((x :: rest).map (fun f => depth n f.2)) ≤ m → Begins p (commas ((x :: rest).map (fieldT n)) ++ [125]) → rowGo 125 (oneField (value m)) f s k p = .error 3
  | rest, x, 0, s, k, p, hG, hR, hs, hk, hm, hb => rfl
  | [], x, f + 1, s, k, p, hG, hR, hs, hk, hm, hb => by
    have hk' : k + nodes n x.2 ≤ 200 := by simpa using hk
    have hm' : depth n x.2 ≤ m := by simpa [maxOf] using hm
    have hx := hG x (by simp)
    have e : commas (([x] : List (Bs × J n)).map (fieldT n)) ++ [125] = quote x.1 ++ 58 :: (tell n x.2 ++ [125]) := by simp [commas, fieldT]
    rw [e] at hb
    rcases name_cut hx.1 (fun g hg => hs g hg x (by simp)) hb with hn | ⟨p', hn, hb'⟩
    · exact rowGo_err3 (field_name hn)
    · rcases begins_append hb' with h | ⟨p2, hp2, h⟩
      · rcases ih x.2 hx.2 m k p' hk' hm' h with hv | ⟨_, v, k', hv⟩
        · exact rowGo_err3 (field_err hn hv)
        · exact rowGo_end (by decide) (field_ok hn hv)
      · have := begins_one h
        subst this
        obtain ⟨v, hv⟩ := told_room hx.2 noDigit_nil hk' hm'
        rw [← hp2] at hv
        exact rowGo_end (by decide) (field_ok hn hv)
  | y :: rest, x, f + 1, s, k, p, hG, hR, hs, hk, hm, hb => by
    have hk' : k + nodes n x.2 + ((y :: rest).map (fun f => nodes n f.2)).sum ≤ 200 := by
      simp only [List.map_cons, List.sum_cons] at hk ⊢
      omega
    have hmm : max (depth n x.2) (maxOf ((y :: rest).map (fun f => depth n f.2))) ≤ m := hm
    have hx := hG x (by simp)
    have e : commas ((x :: y :: rest).map (fieldT n)) ++ [125] = quote x.1 ++ 58 :: (tell n x.2 ++ 44 :: (commas ((y :: rest).map (fieldT n)) ++ [125])) := by simp [commas, fieldT]
    rw [e] at hb
    rcases name_cut hx.1 (fun g hg => hs g hg x (by simp)) hb with hn | ⟨p', hn, hb'⟩
    · exact rowGo_err3 (field_name hn)
    · rcases begins_append hb' with h | ⟨p2, hp2, h⟩
      · rcases ih x.2 hx.2 m k p' (by omega) (by omega) h with hv | ⟨_, v, k', hv⟩
        · exact rowGo_err3 (field_err hn hv)
        · exact rowGo_end (by decide) (field_ok hn hv)
      · rcases begins_cons h with h0 | ⟨p3, h0, h3⟩
        · subst h0
          obtain ⟨v, hv⟩ := told_room (m := m) (k := k) hx.2 noDigit_nil (by omega) (by omega)
          rw [← hp2] at hv
          exact rowGo_end (by decide) (field_ok hn hv)
        · subst h0
          obtain ⟨v, hv⟩ := told_room (m := m) (k := k) (r := 44 :: p3) hx.2 (by show isDigit 44 = false; decide) (by omega) (by omega)
          rw [← hp2] at hv
          rw [rowGo_next (by decide) (field_ok hn hv)]
          have hR' := List.pairwise_cons.1 hR
          refine cut_fields ih m rest y f _ _ p3 (fun z hz => hG z (by simp at hz ⊢; exact Or.inr hz)) hR'.2 (fun g hg z hz => ?_) hk' (by omega) h3
          rcases mem_insertAt hg with h0 | h0
          · subst h0
            exact hR'.1 z hz
          · exact hs g h0 z (by simp at hz ⊢; exact Or.inr hz)
end Go.Proofs.YticnpaagnnaicaaDoor
