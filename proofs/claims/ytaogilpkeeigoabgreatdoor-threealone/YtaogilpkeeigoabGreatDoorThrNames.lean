/- Plain: the names of two objects, sorted and each once; what is picked by names. Of no program. -/
import Derived.Test.YtaogilpkeeigoabGreatDoorMrgPlain
import Derived.Test.YtaogilpkeeigoabGreatDoorMeasure
import Derived.Lib.SlicesCompact
namespace Go.Proofs.YtaogilpkeeigoabGreatDoor
set_option linter.unusedVariables false
set_option linter.unusedSimpArgs false
theorem lt_less : ∀ a b : Bs, a < b ↔ less a b = true
  | [], [] => by
    rw [less_iff, cmp_self]
    constructor
    · intro h; exact absurd h (List.lt_irrefl _)
    · intro h; omega
  | [], y :: b => by
    rw [less_iff]
    constructor
    · intro _; show (-1 : Int) < 0; decide
    · intro _; exact List.nil_lt_cons y b
  | x :: a, [] => by
    rw [less_iff]
    constructor
    · intro h; exact absurd h (List.not_lt_nil _)
    · intro h
      have h' : (1 : Int) < 0 := h
      omega
  | x :: a, y :: b => by
    rw [less_iff, List.cons_lt_cons_iff, lt_less a b, less_iff, Lib.compareBytes]
    by_cases h1 : x < y
    · rw [if_pos h1]
      simp [h1]
    · rw [if_neg h1]
      by_cases h2 : y < x
      · rw [if_pos h2]
        have : x ≠ y := by rintro rfl; exact h1 h2
        simp [h1, this]
      · rw [if_neg h2]
        have : x = y := UInt8.le_antisymm (UInt8.not_lt.1 h2) (UInt8.not_lt.1 h1)
        simp [h1, this]
def leB (x y : Bs) : Bool := decide (x ≤ y)
theorem leB_iff (x y : Bs) : leB x y = true ↔ (x = y ∨ less x y = true) := by
  unfold leB
  rw [decide_eq_true_eq]
  have h : x ≤ y ↔ ¬ y < x := Iff.rfl
  rw [h, lt_less]
  constructor
  · intro h
    by_cases e : x = y
    · exact Or.inl e
    · exact Or.inr (less_of_not (by simpa using h) (Ne.symm e))
  · rintro (rfl | h)
    · rw [m_irrefl]; simp
    · intro h2
      have := m_trans h h2
      rw [m_irrefl] at this
      cases this
theorem leB_trans {x y z : Bs} (h : leB x y = true) (g : leB y z = true) : leB x z = true := by
  rw [leB_iff] at *
  rcases h with rfl | h
  · exact g
  · rcases g with rfl | g
    · exact Or.inr h
    · exact Or.inr (m_trans h g)
theorem leB_total (x y : Bs) : (leB x y || leB y x) = true := by
  by_cases e : x = y
  · have := (leB_iff x y).2 (Or.inl e)
    simp [this]
  · cases h : less x y with
    | true => have := (leB_iff x y).2 (Or.inr h); simp [this]
    | false => have := (leB_iff y x).2 (Or.inr (less_of_not h e)); simp [this]
def sortB (l : List Bs) : List Bs := l.mergeSort leB
theorem sortB_rise (l : List Bs) : (sortB l).Pairwise fun x y => leB x y = true := List.pairwise_mergeSort (le := leB) (fun a b c h g => leB_trans h g) leB_total l
def riseN (l : List Bs) : Prop := l.Pairwise fun x y => less x y = true
theorem comp_at {zs : List Bs} {k : Nat} (h : k < zs.length) : zs.toArray[k]! = zs[k] := by simp [h]
theorem comp_mem (zs : List Bs) (s : Bs) : s ∈ Lib.compact zs ↔ s ∈ zs := by
  unfold Lib.compact Lib.compactUpTo
  constructor
  · intro h
    obtain ⟨k, hk, rfl⟩ := List.mem_map.1 h
    have hk2 := List.mem_range.1 (List.mem_filter.1 hk).1
    rw [comp_at hk2]
    exact List.getElem_mem hk2
  · intro h
    obtain ⟨k, hk, rfl⟩ := List.getElem_of_mem h
    have : ∀ k (hk : k < zs.length), ∃ j, j < zs.length ∧ Lib.keeps zs.toArray j = true ∧ zs.toArray[j]! = zs[k] := by
      intro k
      induction k with
      | zero => intro hk; exact ⟨0, hk, by simp [Lib.keeps], comp_at hk⟩
      | succ k ih =>
        intro hk
        by_cases e : zs.toArray[k + 1]! = zs.toArray[k + 1 - 1]!
        · obtain ⟨j, h1, h2, h3⟩ := ih (by omega)
          refine ⟨j, h1, h2, ?_⟩
          rw [h3, ← comp_at (zs := zs) (k := k) (by omega), ← comp_at hk]
          exact e.symm
        · exact ⟨k + 1, hk, Lib.keeps_pos e, comp_at hk⟩
    obtain ⟨j, h1, h2, h3⟩ := this k hk
    exact List.mem_map.2 ⟨j, List.mem_filter.2 ⟨List.mem_range.2 h1, h2⟩, h3⟩
theorem comp_rise {zs : List Bs} (h : zs.Pairwise fun x y => leB x y = true) : riseN (Lib.compact zs) := by
  have hp := List.pairwise_iff_getElem.1 h
  unfold riseN Lib.compact Lib.compactUpTo
  rw [List.pairwise_map]
  refine List.Pairwise.imp_of_mem ?_ ((List.pairwise_lt_range (n := zs.length)).filter _)
  intro i j hi hj hij
  have hi2 := List.mem_range.1 (List.mem_filter.1 hi).1
  have hj2 := List.mem_range.1 (List.mem_filter.1 hj).1
  have hk := (List.mem_filter.1 hj).2
  obtain ⟨m, rfl⟩ : ∃ m, j = m + 1 := ⟨j - 1, by omega⟩
  have hne : zs[m] ≠ zs[m + 1] := by
    intro e
    rw [Lib.keeps_neg (by omega) (by rw [comp_at hj2, Nat.add_sub_cancel, comp_at (by omega)]; exact e.symm)] at hk
    cases hk
  have h1 : less zs[m] zs[m + 1] = true := by
    rcases (leB_iff _ _).1 (hp m (m + 1) (by omega) hj2 (by omega)) with e | h
    · exact absurd e hne
    · exact h
  rw [comp_at hi2, comp_at hj2]
  by_cases e : i = m
  · subst e; exact h1
  · rcases (leB_iff _ _).1 (hp i m hi2 (by omega) (by omega)) with e | h
    · rw [e]; exact h1
    · exact m_trans h h1
section
variable {α : Type}
/-- the names of both, rising, each once -/
def namesU (a b : List (Bs × α)) : List Bs := Lib.compact (sortB ((a ++ b).map fun f => f.1))
theorem namesU_rise (a b : List (Bs × α)) : riseN (namesU a b) := comp_rise (sortB_rise _)
theorem namesU_mem (a b : List (Bs × α)) (s : Bs) : s ∈ namesU a b ↔ (∃ f ∈ a, f.1 = s) ∨ ∃ f ∈ b, f.1 = s := by
  unfold namesU sortB
  rw [comp_mem, List.mem_mergeSort, List.map_append, List.mem_append, List.mem_map, List.mem_map]
theorem look_none {a : List (Bs × α)} {s : Bs} (h : look a s = none) : ¬ ∃ f ∈ a, f.1 = s := by
  induction a with
  | nil => rintro ⟨f, hf, _⟩; cases hf
  | cons g r ih =>
    simp only [look] at h
    split at h
    · cases h
    · rename_i e
      rintro ⟨f, hf, rfl⟩
      rcases List.mem_cons.1 hf with rfl | hf
      · exact e rfl
      · exact ih h ⟨f, hf, rfl⟩
theorem look_not {a : List (Bs × α)} {s : Bs} (h : ¬ ∃ f ∈ a, f.1 = s) : look a s = none := by
  cases e : look a s with
  | none => rfl
  | some x => exact absurd ⟨_, look_mem e, rfl⟩ h
theorem namesU_not {a b : List (Bs × α)} {s : Bs} (h : s ∉ namesU a b) : look a s = none ∧ look b s = none := by
  rw [namesU_mem] at h
  exact ⟨look_not (fun x => h (Or.inl x)), look_not (fun x => h (Or.inr x))⟩
def pickF (names : List Bs) (g : Bs → Option α) : List (Bs × α) := names.filterMap fun s => (g s).map fun x => (s, x)
theorem pick_cons_some {t : Bs} {r : List Bs} {g : Bs → Option α} {x : α} (h : g t = some x) : pickF (t :: r) g = (t, x) :: pickF r g := by simp [pickF, h]
theorem pick_cons_none {t : Bs} {r : List Bs} {g : Bs → Option α} (h : g t = none) : pickF (t :: r) g = pickF r g := by simp [pickF, h]
theorem pick_snoc (r : List Bs) (t : Bs) (g : Bs → Option α) : pickF (r ++ [t]) g = pickF r g ++ withM t (g t) [] := by
  unfold pickF
  rw [List.filterMap_append]
  cases h : g t <;> simp [h, withM]
theorem pick_mem {names : List Bs} {g : Bs → Option α} {f : Bs × α} (h : f ∈ pickF names g) : f.1 ∈ names ∧ g f.1 = some f.2 := by
  unfold pickF at h
  obtain ⟨s, hs, e⟩ := List.mem_filterMap.1 h
  obtain ⟨x, hx, rfl⟩ := Option.map_eq_some_iff.1 e
  exact ⟨hs, hx⟩
theorem pick_len (names : List Bs) (g : Bs → Option α) : (pickF names g).length ≤ names.length := List.length_filterMap_le _ _
theorem pick_rising {names : List Bs} (h : riseN names) (g : Bs → Option α) : Rising (pickF names g) := by
  induction names with
  | nil => exact List.Pairwise.nil
  | cons t r ih =>
    obtain ⟨h1, h2⟩ := List.pairwise_cons.1 h
    cases e : g t with
    | none => rw [pick_cons_none e]; exact ih h2
    | some x =>
      rw [pick_cons_some e]
      exact List.pairwise_cons.2 ⟨fun f hf => h1 _ (pick_mem hf).1, ih h2⟩
theorem pick_look {names : List Bs} (h : riseN names) (g : Bs → Option α) (s : Bs) : look (pickF names g) s = if s ∈ names then g s else none := by
  by_cases hs : s ∈ names
  · rw [if_pos hs]
    cases e : g s with
    | none =>
      refine look_not ?_
      rintro ⟨f, hf, rfl⟩
      rw [(pick_mem hf).2] at e
      cases e
    | some x =>
      have hm : (s, x) ∈ pickF names g := List.mem_filterMap.2 ⟨s, hs, by rw [e]; rfl⟩
      exact look_of_mem (pick_rising h g) hm
  · rw [if_neg hs]
    refine look_not ?_
    rintro ⟨f, hf, rfl⟩
    exact hs (pick_mem hf).1
theorem pick_all {a b : List (Bs × α)} {g : Bs → Option α} (h0 : ∀ s, look a s = none → look b s = none → g s = none) (s : Bs) : look (pickF (namesU a b) g) s = g s := by
  rw [pick_look (namesU_rise a b)]
  split
  · rfl
  · rename_i h
    obtain ⟨h1, h2⟩ := namesU_not h
    exact (h0 s h1 h2).symm
theorem sum_once (f : Bs) (c : Nat) : ∀ names : List Bs, riseN names → (names.map fun s => if f = s then c else 0).sum ≤ c
  | [], _ => Nat.zero_le _
  | t :: r, h => by
    obtain ⟨h1, h2⟩ := List.pairwise_cons.1 h
    have ih := sum_once f c r h2
    rw [List.map_cons, List.sum_cons]
    by_cases e : f = t
    · subst e
      have h0 : ∀ l : List Bs, (∀ s ∈ l, less f s = true) → (l.map fun s => if f = s then c else 0).sum = 0 := fun l hl => by
        induction l with
        | nil => rfl
        | cons u l ih2 =>
          rw [List.map_cons, List.sum_cons, ih2 fun s hs => hl s (by simp [hs]), if_neg (m_ne (hl u (by simp)))]
      rw [h0 r h1, if_pos rfl]
      omega
    · rw [if_neg e]
      omega
theorem sum_look (wt : α → Nat) (names : List Bs) (hn : riseN names) : ∀ a : List (Bs × α), (names.map fun s => wM wt s (look a s)).sum ≤ sumW wt a
  | [] => by
    have : ∀ l : List Bs, (l.map fun s => wM wt s (look ([] : List (Bs × α)) s)).sum = 0 := fun l => by
      induction l with
      | nil => rfl
      | cons u l ih => rw [List.map_cons, List.sum_cons, ih]; rfl
    rw [this]
    exact Nat.zero_le _
  | f :: r => by
    have ih := sum_look wt names hn r
    have h1 := sum_once f.1 ((quote f.1).length + 2 + wt f.2) names hn
    have h2 : ∀ l : List Bs, (l.map fun s => wM wt s (look (f :: r) s)).sum ≤ (l.map fun s => if f.1 = s then (quote f.1).length + 2 + wt f.2 else 0).sum + (l.map fun s => wM wt s (look r s)).sum := fun l => by
      induction l with
      | nil => exact Nat.zero_le _
      | cons u l ih2 =>
        simp only [List.map_cons, List.sum_cons]
        have : wM wt u (look (f :: r) u) ≤ (if f.1 = u then (quote f.1).length + 2 + wt f.2 else 0) + wM wt u (look r u) := by
          simp only [look]
          split
          · rename_i e
            rw [e]
            simp only [wM]
            omega
          · omega
        omega
    have h3 := h2 names
    have h4 : sumW wt (f :: r) = (quote f.1).length + 2 + wt f.2 + sumW wt r := by simp [sumW]
    omega
theorem pick_sum {wt : α → Nat} {names : List Bs} (hn : riseN names) {g : Bs → Option α} {a b : List (Bs × α)} (hw : ∀ s x, g s = some x → wt x ≤ wO wt (look a s) + wO wt (look b s) ∧ (look a s ≠ none ∨ look b s ≠ none)) : sumW wt (pickF names g) ≤ sumW wt a + sumW wt b := by
  have h1 : ∀ l : List Bs, sumW wt (pickF l g) ≤ (l.map fun s => wM wt s (look a s)).sum + (l.map fun s => wM wt s (look b s)).sum := fun l => by
    induction l with
    | nil => exact Nat.zero_le _
    | cons t r ih =>
      simp only [List.map_cons, List.sum_cons]
      cases e : g t with
      | none => rw [pick_cons_none e]; omega
      | some x =>
        rw [pick_cons_some e]
        obtain ⟨h2, h3⟩ := hw t x e
        have h4 : sumW wt ((t, x) :: pickF r g) = (quote t).length + 2 + wt x + sumW wt (pickF r g) := by simp [sumW]
        have h5 : (quote t).length + 2 + wt x ≤ wM wt t (look a t) + wM wt t (look b t) := by
          cases ha : look a t <;> cases hb : look b t <;> rw [ha, hb] at h2 h3 <;> simp only [wO, wM] at h2 ⊢
          · rcases h3 with h3 | h3 <;> exact absurd rfl h3
          all_goals omega
        omega
  have := h1 names
  have h2 := sum_look wt names hn a
  have h3 := sum_look wt names hn b
  omega
end
/-- a measure that adds up, through objects -/
def wgt : (n : Nat) → J n → Nat
  | 0, l => (tellLeaf l).length + 5
  | _ + 1, Sum.inl l => (tellLeaf l).length + 5
  | n + 1, Sum.inr (Sum.inl xs) => (tell (n + 1) (Sum.inr (Sum.inl xs))).length + nodes (n + 1) (Sum.inr (Sum.inl xs)) + 5
  | n + 1, Sum.inr (Sum.inr fs) => 5 + sumW (wgt n) fs
theorem wgt_five : ∀ (n : Nat) (j : J n), 5 ≤ wgt n j
  | 0, _ => Nat.le_add_left _ _
  | _ + 1, Sum.inl _ => Nat.le_add_left _ _
  | _ + 1, Sum.inr (Sum.inl _) => Nat.le_add_left _ _
  | _ + 1, Sum.inr (Sum.inr _) => Nat.le_add_right _ _
theorem commas_two : ∀ ts : List Bs, (commas ts).length ≤ (ts.map fun t => t.length + 1).sum ∧ (ts.map fun t => t.length + 1).sum ≤ (commas ts).length + 1
  | [] => by simp [commas]
  | [t] => by simp [commas]
  | t :: u :: r => by
    have ih := commas_two (u :: r)
    simp only [commas, List.map_cons, List.sum_cons, List.length_append, List.length_cons] at ih ⊢
    omega
theorem sum_le_map {α : Type} (l : List α) (f g : α → Nat) (h : ∀ x ∈ l, f x ≤ g x) : (l.map f).sum ≤ (l.map g).sum := by
  induction l with
  | nil => simp
  | cons x r ih =>
    have h1 := h x (by simp)
    have h2 := ih fun y hy => h y (by simp [hy])
    simp only [List.map_cons, List.sum_cons]
    omega
theorem wgt_len : ∀ (n : Nat) (j : J n), (tell n j).length ≤ wgt n j ∧ nodes n j ≤ wgt n j
  | 0, l => ⟨Nat.le_add_right _ _, by show 1 ≤ _; exact Nat.le_trans (by omega) (wgt_five 0 l)⟩
  | n + 1, Sum.inl l => ⟨Nat.le_add_right _ _, by show 1 ≤ _; exact Nat.le_trans (by omega) (wgt_five (n + 1) (Sum.inl l))⟩
  | n + 1, Sum.inr (Sum.inl xs) => by
    show _ ≤ (tell (n + 1) (Sum.inr (Sum.inl xs))).length + nodes (n + 1) (Sum.inr (Sum.inl xs)) + 5 ∧ _ ≤ (tell (n + 1) (Sum.inr (Sum.inl xs))).length + nodes (n + 1) (Sum.inr (Sum.inl xs)) + 5
    omega
  | n + 1, Sum.inr (Sum.inr fs) => by
    have ih := fun f (hf : f ∈ fs) => wgt_len n f.2
    refine ⟨?_, ?_⟩
    · show (123 :: (commas (fs.map fun f => quote f.1 ++ 58 :: tell n f.2) ++ [125])).length ≤ 5 + sumW (wgt n) fs
      have h1 := (commas_two (fs.map fun f => quote f.1 ++ 58 :: tell n f.2)).1
      rw [List.map_map] at h1
      have h2 := sum_le_map fs ((fun t => t.length + 1) ∘ fun f => quote f.1 ++ 58 :: tell n f.2) (fun f => (quote f.1).length + 2 + wgt n f.2) (fun f hf => by
        have := (ih f hf).1
        simp only [Function.comp, List.length_append, List.length_cons]
        omega)
      simp only [List.length_cons, List.length_append, List.length_nil]
      unfold sumW
      omega
    · show 1 + (fs.map fun f => nodes n f.2).sum ≤ 5 + sumW (wgt n) fs
      have h2 := sum_le_map fs (fun f => nodes n f.2) (fun f => (quote f.1).length + 2 + wgt n f.2) (fun f hf => by
        have := (ih f hf).2
        omega)
      unfold sumW
      omega
theorem sum_add_map {α : Type} (l : List α) (f g : α → Nat) : (l.map fun x => f x + g x).sum = (l.map f).sum + (l.map g).sum := by
  induction l with
  | nil => simp
  | cons x r ih =>
    simp only [List.map_cons, List.sum_cons, ih]
    omega
theorem sum_mul_map {α : Type} (l : List α) (f : α → Nat) (k : Nat) : (l.map fun x => k * f x).sum = k * (l.map f).sum := by
  induction l with
  | nil => simp
  | cons x r ih => simp only [List.map_cons, List.sum_cons, ih, Nat.mul_add]
theorem wgt_most : ∀ (n : Nat) (j : J n), wgt n j ≤ (tell n j).length + 6 * nodes n j
  | 0, l => by
    show (tellLeaf l).length + 5 ≤ (tellLeaf l).length + 6 * 1
    omega
  | n + 1, Sum.inl l => by
    show (tellLeaf l).length + 5 ≤ (tellLeaf l).length + 6 * 1
    omega
  | n + 1, Sum.inr (Sum.inl xs) => by
    have := nodes_pos (n + 1) (Sum.inr (Sum.inl xs))
    show (tell (n + 1) (Sum.inr (Sum.inl xs))).length + nodes (n + 1) (Sum.inr (Sum.inl xs)) + 5 ≤ _
    omega
  | n + 1, Sum.inr (Sum.inr fs) => by
    have ih := fun f (hf : f ∈ fs) => wgt_most n f.2
    have h1 := (commas_two (fs.map fun f => quote f.1 ++ 58 :: tell n f.2)).2
    rw [List.map_map] at h1
    have h2 := sum_le_map fs (fun f => (quote f.1).length + 2 + wgt n f.2) (fun f => (((fun t => t.length + 1) ∘ fun f : Bs × J n => quote f.1 ++ 58 :: tell n f.2) f) + 6 * nodes n f.2) (fun f hf => by
      have := ih f hf
      simp only [Function.comp, List.length_append, List.length_cons]
      omega)
    have h4 := sum_add_map fs ((fun t => t.length + 1) ∘ fun f : Bs × J n => quote f.1 ++ 58 :: tell n f.2) (fun f => 6 * nodes n f.2)
    have h3 := sum_mul_map fs (fun f => nodes n f.2) 6
    show 5 + sumW (wgt n) fs ≤ (123 :: (commas (fs.map fun f => quote f.1 ++ 58 :: tell n f.2) ++ [125])).length + 6 * (1 + (fs.map fun f => nodes n f.2).sum)
    simp only [List.length_cons, List.length_append, List.length_nil]
    unfold sumW
    omega
theorem wgt_fields {n : Nat} (d : Option (J (n + 1))) : sumW (wgt n) (fieldsP d) ≤ wO (wgt (n + 1)) d := by
  match d with
  | none => exact Nat.le_refl _
  | some (Sum.inl _) => exact Nat.zero_le _
  | some (Sum.inr (Sum.inl _)) => exact Nat.zero_le _
  | some (Sum.inr (Sum.inr fs)) => exact Nat.le_add_left _ _

end Go.Proofs.YtaogilpkeeigoabGreatDoor
