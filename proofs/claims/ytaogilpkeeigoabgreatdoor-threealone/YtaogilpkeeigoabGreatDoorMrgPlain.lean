/- Plain functions: two objects met field by field, merges, what two of them do; of no program. -/
import Derived.Test.YtaogilpkeeigoabGreatDoorDocLift
namespace Go.Proofs.YtaogilpkeeigoabGreatDoor
set_option linter.unusedVariables false
set_option linter.unusedSimpArgs false
section
variable {α : Type}
/-- what an object has under a name -/
def look : List (Bs × α) → Bs → Option α
  | [], _ => none
  | f :: r, s => if f.1 = s then some f.2 else look r s
/-- the lowest name of the first fields -/
def lowName : List (Bs × α) → List (Bs × α) → Bs
  | [], [] => []
  | f :: _, [] => f.1
  | [], g :: _ => g.1
  | f :: _, g :: _ => if less f.1 g.1 then f.1 else g.1
def takeV : List (Bs × α) → Bs → Option α
  | [], _ => none
  | f :: _, s => if f.1 = s then some f.2 else none
def takeR : List (Bs × α) → Bs → List (Bs × α)
  | [], _ => []
  | f :: r, s => if f.1 = s then r else f :: r
def withM (s : Bs) (m : Option α) (r : List (Bs × α)) : List (Bs × α) :=
  match m with
  | none => r
  | some x => (s, x) :: r
abbrev Of (α : Type) := Option α → Option α → Except Nat (Option α)
def meetF (of : Of α) : Nat → List (Bs × α) → List (Bs × α) → Except Nat (List (Bs × α))
  | 0, _, _ => .ok []
  | k + 1, a, b =>
    if a.length + b.length = 0 then .ok []
    else match of (takeV a (lowName a b)) (takeV b (lowName a b)) with
      | .error e => .error e
      | .ok m => match meetF of k (takeR a (lowName a b)) (takeR b (lowName a b)) with
        | .error e => .error e
        | .ok r => .ok (withM (lowName a b) m r)
def meetP (of : Of α) (a b : List (Bs × α)) : Except Nat (List (Bs × α)) := meetF of (a.length + b.length) a b
theorem m_irrefl (s : Bs) : less s s = false := by
  rw [← Bool.not_eq_true, less_iff, cmp_self]
  omega
theorem m_trans {a b c : Bs} (h : less a b = true) (g : less b c = true) : less a c = true := by
  rw [less_iff] at *
  exact cmp_trans _ _ _ h g
theorem m_ne {s t : Bs} (h : less s t = true) : s ≠ t := by
  rintro rfl
  rw [m_irrefl] at h
  cases h
theorem takeR_len (a : List (Bs × α)) (s : Bs) : (takeR a s).length ≤ a.length := by
  cases a with
  | nil => simp [takeR]
  | cons f r =>
    simp only [takeR]
    split <;> simp
theorem takeR_mem {a : List (Bs × α)} {s : Bs} {f : Bs × α} (h : f ∈ takeR a s) : f ∈ a := by
  cases a with
  | nil => exact h
  | cons g r =>
    simp only [takeR] at h
    split at h
    · exact List.mem_cons_of_mem _ h
    · exact h
theorem takeV_mem {a : List (Bs × α)} {s : Bs} {v : α} (h : takeV a s = some v) : (s, v) ∈ a := by
  cases a with
  | nil => cases h
  | cons g r =>
    simp only [takeV] at h
    split at h
    · rename_i e
      cases h
      subst e
      simp
    · cases h
theorem low_mem (a b : List (Bs × α)) (h : a.length + b.length ≠ 0) : (∃ f ∈ a, f.1 = lowName a b) ∨ ∃ f ∈ b, f.1 = lowName a b := by
  cases a with
  | nil =>
    cases b with
    | nil => simp at h
    | cons g b => exact Or.inr ⟨g, by simp, rfl⟩
  | cons f a =>
    cases b with
    | nil => exact Or.inl ⟨f, by simp, rfl⟩
    | cons g b =>
      simp only [lowName]
      split
      · exact Or.inl ⟨f, by simp, rfl⟩
      · exact Or.inr ⟨g, by simp, rfl⟩
theorem low_less (a b : List (Bs × α)) (h : a.length + b.length ≠ 0) : (takeR a (lowName a b)).length + (takeR b (lowName a b)).length < a.length + b.length := by
  cases a with
  | nil =>
    cases b with
    | nil => simp at h
    | cons g b =>
      have e : takeR (g :: b) (lowName [] (g :: b)) = b := by
        show (if g.1 = g.1 then b else g :: b) = b
        rw [if_pos rfl]
      rw [e]
      simp [takeR]
  | cons f a =>
    cases b with
    | nil =>
      have e : takeR (f :: a) (lowName (f :: a) []) = a := by
        show (if f.1 = f.1 then a else f :: a) = a
        rw [if_pos rfl]
      rw [e]
      simp [takeR]
    | cons g b =>
      have h1 := takeR_len (f :: a) (lowName (f :: a) (g :: b))
      have h2 := takeR_len (g :: b) (lowName (f :: a) (g :: b))
      by_cases hl : less f.1 g.1 = true
      · have e : lowName (f :: a) (g :: b) = f.1 := if_pos hl
        have e2 : takeR (f :: a) f.1 = a := if_pos rfl
        rw [e] at h2 ⊢
        rw [e2]
        simp at h2 ⊢
        omega
      · have e : lowName (f :: a) (g :: b) = g.1 := if_neg hl
        have e2 : takeR (g :: b) g.1 = b := if_pos rfl
        rw [e] at h1 ⊢
        rw [e2]
        simp at h1 ⊢
        omega
/-- the first field has that name, or a higher one -/
def Heads (a : List (Bs × α)) (s : Bs) : Prop := ∀ f r, a = f :: r → f.1 = s ∨ less s f.1 = true
theorem heads_left (a b : List (Bs × α)) : Heads a (lowName a b) := by
  rintro f r rfl
  cases b with
  | nil => exact Or.inl rfl
  | cons g b =>
    simp only [lowName]
    split
    · exact Or.inl rfl
    · rename_i h
      by_cases e : f.1 = g.1
      · exact Or.inl e
      · exact Or.inr (less_of_not (by simpa using h) e)
theorem heads_right (a b : List (Bs × α)) : Heads b (lowName a b) := by
  rintro g r rfl
  cases a with
  | nil => exact Or.inl rfl
  | cons f a =>
    simp only [lowName]
    split
    · rename_i h
      exact Or.inr h
    · exact Or.inl rfl
theorem take_above {a : List (Bs × α)} {s : Bs} (hr : Rising a) (hh : Heads a s) : ∀ f ∈ takeR a s, less s f.1 = true := by
  cases a with
  | nil => intro f hf; cases hf
  | cons g r =>
    have hr' := List.pairwise_cons.1 hr
    intro f hf
    simp only [takeR] at hf
    split at hf
    · rename_i e
      rw [← e]
      exact hr'.1 f hf
    · rename_i e
      rcases hh g r rfl with h | h
      · exact absurd h e
      · rcases List.mem_cons.1 hf with rfl | hf
        · exact h
        · exact m_trans h (hr'.1 f hf)
theorem take_rising {a : List (Bs × α)} (s : Bs) (hr : Rising a) : Rising (takeR a s) := by
  cases a with
  | nil => exact hr
  | cons g r =>
    simp only [takeR]
    split
    · exact (List.pairwise_cons.1 hr).2
    · exact hr
theorem look_above {a : List (Bs × α)} {s : Bs} (h : ∀ f ∈ a, less s f.1 = true) : look a s = none := by
  induction a with
  | nil => rfl
  | cons f r ih =>
    simp only [look]
    rw [if_neg (fun e => m_ne (h f (by simp)) e.symm)]
    exact ih fun g hg => h g (by simp [hg])
theorem look_here {a : List (Bs × α)} {s : Bs} (hr : Rising a) (hh : Heads a s) : look a s = takeV a s := by
  have h := take_above hr hh
  cases a with
  | nil => rfl
  | cons g r =>
    simp only [look, takeV]
    split
    · rfl
    · rename_i e
      simp only [takeR] at h
      rw [if_neg e] at h
      exact look_above fun f hf => h f (by simp [hf])
theorem look_else {a : List (Bs × α)} {s t : Bs} (hne : t ≠ s) : look a t = look (takeR a s) t := by
  cases a with
  | nil => rfl
  | cons g r =>
    simp only [takeR]
    split
    · rename_i e
      show (if g.1 = t then some g.2 else look r t) = _
      rw [if_neg (fun h => hne (h.symm.trans e))]
    · rfl
theorem look_mem {a : List (Bs × α)} {s : Bs} {v : α} (h : look a s = some v) : (s, v) ∈ a := by
  induction a with
  | nil => cases h
  | cons f r ih =>
    simp only [look] at h
    split at h
    · rename_i e
      cases h
      subst e
      simp
    · exact List.mem_cons_of_mem _ (ih h)
theorem look_of_mem {a : List (Bs × α)} (hr : Rising a) {f : Bs × α} (h : f ∈ a) : look a f.1 = some f.2 := by
  induction a with
  | nil => cases h
  | cons g r ih =>
    have hr' := List.pairwise_cons.1 hr
    simp only [look]
    rcases List.mem_cons.1 h with rfl | h
    · rw [if_pos rfl]
    · rw [if_neg (m_ne (hr'.1 f h))]
      exact ih hr'.2 h
/-- two rising lists that have the same under each name are one -/
theorem look_ext : ∀ (a b : List (Bs × α)), Rising a → Rising b → (∀ s, look a s = look b s) → a = b
  | [], [], _, _, _ => rfl
  | [], g :: b, _, _, h => by
    have := h g.1
    simp [look] at this
  | f :: a, [], _, _, h => by
    have := h f.1
    simp [look] at this
  | f :: a, g :: b, ha, hb, h => by
    have ha' := List.pairwise_cons.1 ha
    have hb' := List.pairwise_cons.1 hb
    have hn : f.1 = g.1 := by
      have h1 := look_mem ((h f.1).symm.trans (by simp [look]) : look (g :: b) f.1 = some f.2)
      have h2 := look_mem ((h g.1).trans (by simp [look]) : look (f :: a) g.1 = some g.2)
      rcases List.mem_cons.1 h1 with e | e
      · exact congrArg (·.1) e
      · rcases List.mem_cons.1 h2 with e2 | e2
        · exact (congrArg (·.1) e2).symm
        · have x := hb'.1 _ e
          have y := ha'.1 _ e2
          exact absurd rfl (m_ne (m_trans x y))
    have hv : f.2 = g.2 := by
      have := h f.1
      rw [look, if_pos rfl, look, if_pos hn.symm] at this
      exact Option.some.inj this
    have hfg : f = g := Prod.ext hn hv
    subst hfg
    rw [look_ext a b ha'.2 hb'.2 fun s => ?_]
    by_cases e : f.1 = s
    · subst e
      rw [look_above ha'.1, look_above hb'.1]
    · have := h s
      rw [look, if_neg e, look, if_neg e] at this
      exact this
/-! What is known of what is met. -/
theorem meetF_step {of : Of α} {k : Nat} {a b R : List (Bs × α)} (h : meetF of (k + 1) a b = .ok R) (hne : a.length + b.length ≠ 0) :
    ∃ m r, of (takeV a (lowName a b)) (takeV b (lowName a b)) = .ok m ∧ meetF of k (takeR a (lowName a b)) (takeR b (lowName a b)) = .ok r ∧ R = withM (lowName a b) m r := by
  simp only [meetF] at h
  rw [if_neg hne] at h
  cases h1 : of (takeV a (lowName a b)) (takeV b (lowName a b)) with
  | error e => rw [h1] at h; cases h
  | ok m =>
    rw [h1] at h
    cases h2 : meetF of k (takeR a (lowName a b)) (takeR b (lowName a b)) with
    | error e => simp only [h2] at h; cases h
    | ok r =>
      simp only [h2] at h
      exact ⟨m, r, rfl, rfl, (Except.ok.inj h).symm⟩
theorem withM_mem {s : Bs} {m : Option α} {r : List (Bs × α)} {f : Bs × α} (h : f ∈ withM s m r) : (f.1 = s ∧ m = some f.2) ∨ f ∈ r := by
  cases m with
  | none => exact Or.inr h
  | some x =>
    rcases List.mem_cons.1 h with rfl | h
    · exact Or.inl ⟨rfl, rfl⟩
    · exact Or.inr h
theorem meet_names {of : Of α} {P : Bs → Prop} : ∀ (k : Nat) (a b R : List (Bs × α)), meetF of k a b = .ok R → (∀ f ∈ a, P f.1) → (∀ f ∈ b, P f.1) → ∀ f ∈ R, P f.1
  | 0, a, b, R, h, ha, hb => by
    cases h
    intro f hf
    cases hf
  | k + 1, a, b, R, h, ha, hb => by
    by_cases hne : a.length + b.length = 0
    · simp only [meetF] at h
      rw [if_pos hne] at h
      cases h
      intro f hf
      cases hf
    · obtain ⟨m, r, h1, h2, rfl⟩ := meetF_step h hne
      intro f hf
      rcases withM_mem hf with ⟨e, _⟩ | hf
      · rw [e]
        rcases low_mem a b hne with ⟨g, hg, e2⟩ | ⟨g, hg, e2⟩
        · rw [← e2]; exact ha g hg
        · rw [← e2]; exact hb g hg
      · exact meet_names k _ _ r h2 (fun g hg => ha g (takeR_mem hg)) (fun g hg => hb g (takeR_mem hg)) f hf
theorem meet_vals {of : Of α} {Q : α → Prop} : ∀ (k : Nat) (a b R : List (Bs × α)), meetF of k a b = .ok R → (∀ v u m, (∀ x, v = some x → ∃ s, (s, x) ∈ a) → (∀ x, u = some x → ∃ s, (s, x) ∈ b) → of v u = .ok (some m) → Q m) → ∀ f ∈ R, Q f.2
  | 0, a, b, R, h, hq => by
    cases h
    intro f hf
    cases hf
  | k + 1, a, b, R, h, hq => by
    by_cases hne : a.length + b.length = 0
    · simp only [meetF] at h
      rw [if_pos hne] at h
      cases h
      intro f hf
      cases hf
    · obtain ⟨m, r, h1, h2, rfl⟩ := meetF_step h hne
      intro f hf
      rcases withM_mem hf with ⟨e, e2⟩ | hf
      · subst e2
        exact hq _ _ _ (fun x hx => ⟨_, takeV_mem hx⟩) (fun x hx => ⟨_, takeV_mem hx⟩) h1
      · exact meet_vals k _ _ r h2 (fun v u m hv hu hm => hq v u m (fun x hx => by
          obtain ⟨s, hs⟩ := hv x hx
          exact ⟨s, takeR_mem hs⟩) (fun x hx => by
          obtain ⟨s, hs⟩ := hu x hx
          exact ⟨s, takeR_mem hs⟩) hm) f hf
theorem meet_rising {of : Of α} : ∀ (k : Nat) (a b R : List (Bs × α)), meetF of k a b = .ok R → Rising a → Rising b → Rising R
  | 0, a, b, R, h, ha, hb => by
    cases h
    exact List.Pairwise.nil
  | k + 1, a, b, R, h, ha, hb => by
    by_cases hne : a.length + b.length = 0
    · simp only [meetF] at h
      rw [if_pos hne] at h
      cases h
      exact List.Pairwise.nil
    · obtain ⟨m, r, h1, h2, rfl⟩ := meetF_step h hne
      have hr := meet_rising k _ _ r h2 (take_rising _ ha) (take_rising _ hb)
      cases m with
      | none => exact hr
      | some x => exact List.pairwise_cons.2 ⟨meet_names (P := fun t => less (lowName a b) t = true) k _ _ r h2 (take_above ha (heads_left a b)) (take_above hb (heads_right a b)), hr⟩
theorem meet_look {of : Of α} (h0 : of none none = .ok none) : ∀ (k : Nat) (a b R : List (Bs × α)), a.length + b.length ≤ k → meetF of k a b = .ok R → Rising a → Rising b → ∀ s, of (look a s) (look b s) = .ok (look R s)
  | 0, a, b, R, hk, h, ha, hb, s => by
    cases h
    have : a = [] := List.length_eq_zero_iff.1 (by omega)
    subst this
    have : b = [] := List.length_eq_zero_iff.1 (by omega)
    subst this
    exact h0
  | k + 1, a, b, R, hk, h, ha, hb, s => by
    by_cases hne : a.length + b.length = 0
    · simp only [meetF] at h
      rw [if_pos hne] at h
      cases h
      have : a = [] := List.length_eq_zero_iff.1 (by omega)
      subst this
      have : b = [] := List.length_eq_zero_iff.1 (by omega)
      subst this
      exact h0
    · obtain ⟨m, r, h1, h2, rfl⟩ := meetF_step h hne
      have hl := low_less a b hne
      have ih := meet_look h0 k _ _ r (by omega) h2 (take_rising _ ha) (take_rising _ hb)
      by_cases e : s = lowName a b
      · subst e
        rw [look_here ha (heads_left a b), look_here hb (heads_right a b), h1]
        cases m with
        | none =>
          have hn := meet_names (P := fun t => less (lowName a b) t = true) k _ _ r h2 (take_above ha (heads_left a b)) (take_above hb (heads_right a b))
          rw [withM, look_above hn]
        | some x => simp [withM, look]
      · rw [look_else e, look_else (a := b) e, ih s]
        cases m with
        | none => rfl
        | some x => simp [withM, look, Ne.symm e]
def wO (wt : α → Nat) : Option α → Nat
  | none => 0
  | some x => wt x
def wM (wt : α → Nat) (s : Bs) : Option α → Nat
  | none => 0
  | some x => (quote s).length + 2 + wt x
def sumW (wt : α → Nat) (fs : List (Bs × α)) : Nat := (fs.map fun f => (quote f.1).length + 2 + wt f.2).sum
theorem sum_take (wt : α → Nat) (a : List (Bs × α)) (s : Bs) : (∃ v, takeV a s = some v ∧ sumW wt a = (quote s).length + 2 + wt v + sumW wt (takeR a s)) ∨ (takeV a s = none ∧ takeR a s = a) := by
  cases a with
  | nil => exact Or.inr ⟨rfl, rfl⟩
  | cons f r =>
    simp only [takeV, takeR]
    split
    · rename_i e
      subst e
      exact Or.inl ⟨_, rfl, by simp [sumW]⟩
    · exact Or.inr ⟨rfl, rfl⟩
theorem meet_sum {of : Of α} {wt : α → Nat} (hw : ∀ v u m, of v u = .ok (some m) → wt m ≤ wO wt v + wO wt u) : ∀ (k : Nat) (a b R : List (Bs × α)), meetF of k a b = .ok R → sumW wt R ≤ sumW wt a + sumW wt b
  | 0, a, b, R, h => by
    cases h
    simp [sumW]
  | k + 1, a, b, R, h => by
    by_cases hne : a.length + b.length = 0
    · simp only [meetF] at h
      rw [if_pos hne] at h
      cases h
      simp [sumW]
    · obtain ⟨m, r, h1, h2, rfl⟩ := meetF_step h hne
      have ih := meet_sum hw k _ _ r h2
      have hm : sumW wt (withM (lowName a b) m r) ≤ wM wt (lowName a b) m + sumW wt r := by
        cases m with
        | none => simp [withM, wM]
        | some x => simp [withM, sumW, wM]
      have hx : ∀ x, m = some x → wt x ≤ wO wt (takeV a (lowName a b)) + wO wt (takeV b (lowName a b)) := fun x e => hw _ _ _ (e ▸ h1)
      clear h1 h2 h hw
      generalize hnm : lowName a b = nm at *
      rcases sum_take wt a nm with ⟨v, hv, e1⟩ | ⟨hv, e1⟩ <;> rcases sum_take wt b nm with ⟨u, hu, e2⟩ | ⟨hu, e2⟩
      · rw [hv, hu] at hx
        cases m with
        | none => simp only [wM] at hm; omega
        | some x => have := hx x rfl; simp only [wO] at this; simp only [wM] at hm; omega
      · rw [hv, hu] at hx
        rw [e2] at ih
        cases m with
        | none => simp only [wM] at hm; omega
        | some x => have := hx x rfl; simp only [wO] at this; simp only [wM] at hm; omega
      · rw [hv, hu] at hx
        rw [e1] at ih
        cases m with
        | none => simp only [wM] at hm; omega
        | some x => have := hx x rfl; simp only [wO] at this; simp only [wM] at hm; omega
      · exfalso
        have := low_less a b hne
        rw [hnm, e1, e2] at this
        omega
end
/-! Merges. -/
def isNullJ : (n : Nat) → J n → Bool
  | 0, l => l.isNone
  | _ + 1, Sum.inl l => l.isNone
  | _ + 1, Sum.inr _ => false
/-- what is there when says is merged into was -/
def ofM {n : Nat} (merged : Option (J n) → J n → J n) : Of (J n) := fun was says =>
  match says with
  | none => .ok was
  | some s => if isNullJ n s then .ok none else .ok (some (merged was s))
def fieldsP {n : Nat} : Option (J (n + 1)) → List (Bs × J n)
  | some (Sum.inr (Sum.inr fs)) => fs
  | _ => []
def okL {β : Type} (r : Except Nat (List β)) : List β :=
  match r with
  | .ok l => l
  | .error _ => []
def mergedP : (n : Nat) → Option (J n) → J n → J n
  | 0, _, v => v
  | _ + 1, _, Sum.inl l => Sum.inl l
  | _ + 1, _, Sum.inr (Sum.inl xs) => Sum.inr (Sum.inl xs)
  | n + 1, d, Sum.inr (Sum.inr fs) => Sum.inr (Sum.inr (okL (meetP (ofM (mergedP n)) (fieldsP d) fs)))
def ofC {n : Nat} (composed : J n → J n → Except Nat (J n)) : Of (J n) := fun first next =>
  match next with
  | none => .ok first
  | some t => match first with
    | none => .ok (some t)
    | some f => match composed f t with
      | .error e => .error e
      | .ok c => .ok (some c)
def objE {n : Nat} (r : Except Nat (List (Bs × J n))) : Except Nat (J (n + 1)) :=
  match r with
  | .error e => .error e
  | .ok fs => .ok (Sum.inr (Sum.inr fs))
def composedP : (n : Nat) → J n → J n → Except Nat (J n)
  | 0, _, q => .ok q
  | _ + 1, _, Sum.inl l => .ok (Sum.inl l)
  | _ + 1, _, Sum.inr (Sum.inl xs) => .ok (Sum.inr (Sum.inl xs))
  | n + 1, Sum.inr (Sum.inr fp), Sum.inr (Sum.inr fq) => objE (meetP (ofC (composedP n)) fp fq)
  | _ + 1, _, Sum.inr (Sum.inr _) => .error 9
theorem ofM_ok {n : Nat} (g : Option (J n) → J n → J n) (v u : Option (J n)) : ∃ m, ofM g v u = .ok m := by
  simp only [ofM]
  split
  · exact ⟨_, rfl⟩
  · split
    · exact ⟨_, rfl⟩
    · exact ⟨_, rfl⟩
theorem meetF_ok {α : Type} {of : Of α} (ho : ∀ v u, ∃ m, of v u = .ok m) : ∀ (k : Nat) (a b : List (Bs × α)), ∃ R, meetF of k a b = .ok R
  | 0, _, _ => ⟨_, rfl⟩
  | k + 1, a, b => by
    simp only [meetF]
    split
    · exact ⟨_, rfl⟩
    · obtain ⟨m, hm⟩ := ho (takeV a (lowName a b)) (takeV b (lowName a b))
      obtain ⟨r, hr⟩ := meetF_ok ho k (takeR a (lowName a b)) (takeR b (lowName a b))
      rw [hm]
      simp only [hr]
      exact ⟨_, rfl⟩
theorem merged_obj {n : Nat} (d : Option (J (n + 1))) (fs : List (Bs × J n)) : ∃ R, meetP (ofM (mergedP n)) (fieldsP d) fs = .ok R ∧ mergedP (n + 1) d (Sum.inr (Sum.inr fs)) = Sum.inr (Sum.inr R) := by
  obtain ⟨R, hR⟩ := meetF_ok (ofM_ok (mergedP n)) ((fieldsP d).length + fs.length) (fieldsP d) fs
  have h : meetP (ofM (mergedP n)) (fieldsP d) fs = .ok R := hR
  refine ⟨R, h, ?_⟩
  show (Sum.inr (Sum.inr (okL (meetP (ofM (mergedP n)) (fieldsP d) fs))) : J (n + 1)) = _
  rw [h]
  rfl
theorem ofM_none {n : Nat} (g : Option (J n) → J n → J n) : ofM g none none = .ok none := rfl
theorem ofC_none {n : Nat} (g : J n → J n → Except Nat (J n)) : ofC g none none = .ok none := rfl
/-- all fields of a value that may be -/
theorem good_fields {n : Nat} {d : Option (J (n + 1))} (h : ∀ x, d = some x → Good (n + 1) x) : Rising (fieldsP d) ∧ ∀ f ∈ fieldsP d, (∀ c ∈ f.1, meant c = true) ∧ Good n f.2 := by
  match d, h with
  | none, _ => exact ⟨List.Pairwise.nil, fun f hf => by cases hf⟩
  | some (Sum.inl l), _ => exact ⟨List.Pairwise.nil, fun f hf => by cases hf⟩
  | some (Sum.inr (Sum.inl xs)), _ => exact ⟨List.Pairwise.nil, fun f hf => by cases hf⟩
  | some (Sum.inr (Sum.inr fs)), h => exact h _ rfl
theorem good_meet {n : Nat} {of : Of (J n)} {a b R : List (Bs × J n)} (h : meetP of a b = .ok R) (ha : Rising a ∧ ∀ f ∈ a, (∀ c ∈ f.1, meant c = true) ∧ Good n f.2) (hb : Rising b ∧ ∀ f ∈ b, (∀ c ∈ f.1, meant c = true) ∧ Good n f.2)
    (ho : ∀ v u m, (∀ x, v = some x → Good n x) → (∀ x, u = some x → Good n x) → of v u = .ok (some m) → Good n m) : Good (n + 1) (Sum.inr (Sum.inr R)) := by
  have h' : meetF of (a.length + b.length) a b = .ok R := h
  refine ⟨meet_rising _ _ _ _ h' ha.1 hb.1, fun f hf => ⟨meet_names (P := fun s => ∀ c ∈ s, meant c = true) _ _ _ _ h' (fun g hg => (ha.2 g hg).1) (fun g hg => (hb.2 g hg).1) f hf, ?_⟩⟩
  refine meet_vals (Q := Good n) _ _ _ _ h' (fun v u m hv hu hm => ho v u m (fun x hx => ?_) (fun x hx => ?_) hm) f hf
  · obtain ⟨s, hs⟩ := hv x hx
    exact (ha.2 _ hs).2
  · obtain ⟨s, hs⟩ := hu x hx
    exact (hb.2 _ hs).2
theorem merged_good : ∀ (n : Nat) (d : Option (J n)) (v : J n), (∀ x, d = some x → Good n x) → Good n v → Good n (mergedP n d v)
  | 0, _, _, _, h => h
  | _ + 1, _, Sum.inl _, _, h => h
  | _ + 1, _, Sum.inr (Sum.inl _), _, h => h
  | n + 1, d, Sum.inr (Sum.inr fs), hd', h => by
    obtain ⟨R, h1, h2⟩ := merged_obj d fs
    rw [h2]
    refine good_meet h1 (good_fields hd') h fun v u m hv hu hm => ?_
    match u, hu, hm with
    | none, _, hm => exact hv m (Except.ok.inj hm)
    | some s, hu, hm =>
      simp only [ofM] at hm
      split at hm
      · cases hm
      · cases hm
        exact merged_good n v s hv (hu s rfl)
theorem composed_good : ∀ (n : Nat) (p q c : J n), Good n p → Good n q → composedP n p q = .ok c → Good n c
  | 0, _, q, c, _, hq, h => by cases h; exact hq
  | _ + 1, _, Sum.inl _, c, _, hq, h => by
    have e := Except.ok.inj (show (Except.ok _ : Except Nat _) = .ok c from h)
    subst e
    exact hq
  | _ + 1, _, Sum.inr (Sum.inl _), c, _, hq, h => by
    have e := Except.ok.inj (show (Except.ok _ : Except Nat _) = .ok c from h)
    subst e
    exact hq
  | n + 1, Sum.inl _, Sum.inr (Sum.inr _), c, _, _, h => by cases h
  | n + 1, Sum.inr (Sum.inl _), Sum.inr (Sum.inr _), c, _, _, h => by cases h
  | n + 1, Sum.inr (Sum.inr fp), Sum.inr (Sum.inr fq), c, hp, hq, h => by
    have h' : objE (meetP (ofC (composedP n)) fp fq) = .ok c := h
    cases hm : meetP (ofC (composedP n)) fp fq with
    | error e => rw [hm] at h'; cases h'
    | ok R =>
      rw [hm] at h'
      cases h'
      refine good_meet hm hp hq fun v u m hv hu ho => ?_
      match v, u, hv, hu, ho with
      | v, none, hv, _, ho => exact hv m (Except.ok.inj ho)
      | none, some t, _, hu, ho =>
        have e : some t = some m := Except.ok.inj ho
        exact hu m e
      | some f, some t, hv, hu, ho =>
        simp only [ofC] at ho
        cases hc : composedP n f t with
        | error e => rw [hc] at ho; cases ho
        | ok c =>
          rw [hc] at ho
          cases ho
          exact composed_good n f t _ (hv f rfl) (hu t rfl) hc
end Go.Proofs.YtaogilpkeeigoabGreatDoor
