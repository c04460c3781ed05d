/- Plain: what three documents make of each other; laws of it. Of no program. -/
import Derived.Test.YtaogilpkeeigoabGreatDoorThrNames
namespace Go.Proofs.YtaogilpkeeigoabGreatDoor
set_option linter.unusedVariables false
set_option linter.unusedSimpArgs false
def ofT {α : Type} (g : Option α → Option α → α → α) (a b c : Option α) : Option α :=
  match c with
  | some x => some (g a b x)
  | none => match a with
    | some _ => none
    | none => b
theorem ofT_none {α : Type} (g : Option α → Option α → α → α) (a : Option α) : ofT g a none none = none := by cases a <;> rfl
/-- what the three make: last, live, want -/
def threeP : (n : Nat) → Option (J n) → Option (J n) → J n → J n
  | 0, _, _, x => x
  | _ + 1, _, _, Sum.inl l => Sum.inl l
  | _ + 1, _, _, Sum.inr (Sum.inl xs) => Sum.inr (Sum.inl xs)
  | n + 1, a, b, Sum.inr (Sum.inr fs) => Sum.inr (Sum.inr (pickF (namesU (fieldsP b) fs) fun s => ofT (threeP n) (look (fieldsP a) s) (look (fieldsP b) s) (look fs s)))
/-- the fields that are made -/
def threeF (n : Nat) (a b : Option (J (n + 1))) (fs : List (Bs × J n)) : List (Bs × J n) := pickF (namesU (fieldsP b) fs) fun s => ofT (threeP n) (look (fieldsP a) s) (look (fieldsP b) s) (look fs s)
theorem three_obj {n : Nat} (a b : Option (J (n + 1))) (fs : List (Bs × J n)) : threeP (n + 1) a b (Sum.inr (Sum.inr fs)) = Sum.inr (Sum.inr (threeF n a b fs)) := rfl
theorem threeF_rising {n : Nat} (a b : Option (J (n + 1))) (fs : List (Bs × J n)) : Rising (threeF n a b fs) := pick_rising (namesU_rise _ _) _
theorem threeF_look {n : Nat} (a b : Option (J (n + 1))) (fs : List (Bs × J n)) (s : Bs) : look (threeF n a b fs) s = ofT (threeP n) (look (fieldsP a) s) (look (fieldsP b) s) (look fs s) :=
  pick_all (fun t h1 h2 => by rw [h1, h2]; exact ofT_none _ _) s
/-- what was wanted, and is there, stays -/
theorem three_again : ∀ (n : Nat) (a b : Option (J n)) (x : J n), threeP n (some x) (some (threeP n a b x)) x = threeP n a b x
  | 0, _, _, _ => rfl
  | _ + 1, _, _, Sum.inl _ => rfl
  | _ + 1, _, _, Sum.inr (Sum.inl _) => rfl
  | n + 1, a, b, Sum.inr (Sum.inr fs) => by
    rw [three_obj, three_obj]
    refine congrArg (fun l => Sum.inr (Sum.inr l)) (look_ext _ _ (threeF_rising _ _ _) (threeF_rising _ _ _) fun s => ?_)
    rw [threeF_look]
    show ofT (threeP n) (look fs s) (look (threeF n a b fs) s) (look fs s) = look (threeF n a b fs) s
    cases h : look fs s with
    | none => rfl
    | some y =>
      have e : look (threeF n a b fs) s = some (threeP n (look (fieldsP a) s) (look (fieldsP b) s) y) := by rw [threeF_look, h]; rfl
      rw [e]
      show some (threeP n (some y) (some (threeP n (look (fieldsP a) s) (look (fieldsP b) s) y)) y) = _
      rw [three_again n]
/-- where nothing else was changed, what is wanted comes of it -/
theorem three_alone : ∀ (n : Nat) (a : Option (J n)) (x : J n), Good n x → threeP n a a x = x
  | 0, _, _, _ => rfl
  | _ + 1, _, Sum.inl _, _ => rfl
  | _ + 1, _, Sum.inr (Sum.inl _), _ => rfl
  | n + 1, a, Sum.inr (Sum.inr fs), hg => by
    rw [three_obj]
    refine congrArg (fun l => Sum.inr (Sum.inr l)) (look_ext _ _ (threeF_rising _ _ _) hg.1 fun s => ?_)
    rw [threeF_look]
    cases h : look fs s with
    | none => cases h2 : look (fieldsP a) s <;> rfl
    | some y =>
      show some (threeP n (look (fieldsP a) s) (look (fieldsP a) s) y) = some y
      rw [three_alone n _ y (hg.2 _ (look_mem h)).2]
/-- nothing goes -/
def noLoss : (n : Nat) → Option (J n) → Option (J n) → J n → Prop
  | 0, _, _, _ => True
  | _ + 1, _, _, Sum.inl _ => True
  | _ + 1, _, _, Sum.inr (Sum.inl _) => True
  | n + 1, a, b, Sum.inr (Sum.inr fs) => ∀ s, (∀ y, look fs s = some y → noLoss n (look (fieldsP a) s) (look (fieldsP b) s) y) ∧ (look fs s = none → look (fieldsP a) s = none)
theorem noLoss_same : ∀ (n : Nat) (b : Option (J n)) (x : J n), noLoss n (some x) b x
  | 0, _, _ => trivial
  | _ + 1, _, Sum.inl _ => trivial
  | _ + 1, _, Sum.inr (Sum.inl _) => trivial
  | n + 1, b, Sum.inr (Sum.inr fs) => fun s => ⟨fun y hy => by
      have e : look (fieldsP (some (Sum.inr (Sum.inr fs) : J (n + 1)))) s = some y := hy
      rw [e]
      exact noLoss_same n _ y, fun h => h⟩
theorem noLoss_none : ∀ (n : Nat) (b : Option (J n)) (x : J n), noLoss n none b x
  | 0, _, _ => trivial
  | _ + 1, _, Sum.inl _ => trivial
  | _ + 1, _, Sum.inr (Sum.inl _) => trivial
  | n + 1, b, Sum.inr (Sum.inr fs) => fun s => ⟨fun y hy => noLoss_none n _ y, fun h => rfl⟩
theorem noLoss_empty (n : Nat) (b : Option (J (n + 1))) (x : J (n + 1)) : noLoss (n + 1) (some (Sum.inr (Sum.inr []))) b x := by
  match x with
  | Sum.inl _ => trivial
  | Sum.inr (Sum.inl _) => trivial
  | Sum.inr (Sum.inr fs) => exact fun s => ⟨fun y hy => noLoss_none n _ y, fun h => rfl⟩
theorem good_fieldsT {n : Nat} {b : Option (J (n + 1))} (h : ∀ y, b = some y → Good (n + 1) y) : Rising (fieldsP b) ∧ ∀ f ∈ fieldsP b, (∀ c ∈ f.1, meant c = true) ∧ Good n f.2 := by
  match b, h with
  | none, _ => exact ⟨List.Pairwise.nil, fun f hf => by cases hf⟩
  | some (Sum.inl _), _ => exact ⟨List.Pairwise.nil, fun f hf => by cases hf⟩
  | some (Sum.inr (Sum.inl _)), _ => exact ⟨List.Pairwise.nil, fun f hf => by cases hf⟩
  | some (Sum.inr (Sum.inr fs)), h => exact h _ rfl
theorem three_good : ∀ (n : Nat) (a b : Option (J n)) (x : J n), Good n x → (∀ y, b = some y → Good n y) → Good n (threeP n a b x)
  | 0, _, _, _, h, _ => h
  | _ + 1, _, _, Sum.inl _, h, _ => h
  | _ + 1, _, _, Sum.inr (Sum.inl _), h, _ => h
  | n + 1, a, b, Sum.inr (Sum.inr fs), h, hb => by
    obtain ⟨hb1, hb2⟩ := good_fieldsT hb
    rw [three_obj]
    refine ⟨threeF_rising _ _ _, fun f hf => ?_⟩
    obtain ⟨h1, h2⟩ := pick_mem hf
    refine ⟨?_, ?_⟩
    · rcases (namesU_mem _ _ _).1 h1 with ⟨g, hg, e⟩ | ⟨g, hg, e⟩
      · rw [← e]; exact (hb2 g hg).1
      · rw [← e]; exact (h.2 g hg).1
    · cases hl : look fs f.1 with
      | some y =>
        rw [hl] at h2
        have e : threeP n (look (fieldsP a) f.1) (look (fieldsP b) f.1) y = f.2 := Option.some.inj h2
        rw [← e]
        exact three_good n _ _ y (h.2 _ (look_mem hl)).2 (fun z hz => (hb2 _ (look_mem hz)).2)
      | none =>
        rw [hl] at h2
        cases ha : look (fieldsP a) f.1 with
        | some z => rw [ha] at h2; cases h2
        | none =>
          rw [ha] at h2
          exact (hb2 _ (look_mem (show look (fieldsP b) f.1 = some f.2 from h2))).2
theorem three_wgt : ∀ (n : Nat) (a b : Option (J n)) (x : J n), wgt n (threeP n a b x) ≤ wO (wgt n) b + wgt n x
  | 0, _, _, _ => Nat.le_add_left _ _
  | _ + 1, _, _, Sum.inl _ => Nat.le_add_left _ _
  | _ + 1, _, _, Sum.inr (Sum.inl _) => Nat.le_add_left _ _
  | n + 1, a, b, Sum.inr (Sum.inr fs) => by
    rw [three_obj]
    have h3 : sumW (wgt n) (threeF n a b fs) ≤ sumW (wgt n) (fieldsP b) + sumW (wgt n) fs := pick_sum (namesU_rise _ _) fun s y hy => by
      cases hl : look fs s with
      | some z =>
        rw [hl] at hy
        have e : threeP n (look (fieldsP a) s) (look (fieldsP b) s) z = y := Option.some.inj hy
        rw [← e]
        exact ⟨three_wgt n _ _ z, Or.inr (by simp)⟩
      | none =>
        rw [hl] at hy
        cases ha : look (fieldsP a) s with
        | some z => rw [ha] at hy; cases hy
        | none =>
          rw [ha] at hy
          have e : look (fieldsP b) s = some y := hy
          rw [e]
          exact ⟨Nat.le_add_right _ _, Or.inl (by simp)⟩
    have h4 := wgt_fields b
    show 5 + sumW (wgt n) (threeF n a b fs) ≤ wO (wgt (n + 1)) b + (5 + sumW (wgt n) fs)
    omega
end Go.Proofs.YtaogilpkeeigoabGreatDoor
