/- Plain functions: what a step leads to, what is put and cut there, along several steps. -/
import Derived.Test.YtaogilpkeeigoabGreatDoorDocLift
import Derived.Test.YtaogilpkeeigoabGreatDoorRepPlain
import Derived.Lib.AtoiAllCases
namespace Go.Proofs.YtaogilpkeeigoabGreatDoor
set_option linter.unusedVariables false
set_option linter.unusedSimpArgs false
/-- which place of a list a step is -/
def placeP (s : Bs) : Option Nat :=
  match Lib.atoiAll s with
  | .ok v => if 0 ≤ v ∧ Lib.itoa v = s then some v.toNat else none
  | _ => none
theorem placeP_itoa {s : Bs} {i : Nat} (h : placeP s = some i) : s = Lib.itoa (i : Int) := by
  unfold placeP at h
  split at h
  · split at h
    · rename_i v _ hv
      cases h
      rw [Int.toNat_of_nonneg hv.1]
      exact hv.2.symm
    · cases h
  · cases h
theorem placeP_inj {s t : Bs} {i : Nat} (h : placeP s = some i) (g : placeP t = some i) : s = t := (placeP_itoa h).trans (placeP_itoa g).symm
theorem placeP_dash : placeP [45] = none := by decide +kernel
section
variable {α : Type}
/-- the value of the field of that name -/
def fieldAt (fs : List (Bs × α)) (s : Bs) : Option α := if fs.any (fun f => f.1 == s) then (fs[placeOfName fs s]?).map (·.2) else none
/-- with that field, from now on -/
def setAt (fs : List (Bs × α)) (s : Bs) (v : α) : List (Bs × α) := fs.take (placeOfName fs s) ++ (s, v) :: fs.drop (placeOfName fs s + if fs.any (fun f => f.1 == s) then 1 else 0)
/-- without that field -/
def cutAt (fs : List (Bs × α)) (s : Bs) : List (Bs × α) := fs.take (placeOfName fs s) ++ fs.drop (placeOfName fs s + 1)
/-- with that field's value another one -/
def repl (fs : List (Bs × α)) (s : Bs) (v : α) : List (Bs × α) := fs.map fun f => if f.1 == s then (f.1, v) else f
theorem less_irrefl (s : Bs) : less s s = false := by
  rw [← Bool.not_eq_true, less_iff, cmp_self]
  omega
theorem less_asymm {s t : Bs} (h : less s t = true) : less t s = false := by
  rw [← Bool.not_eq_true]
  intro g
  rw [less_iff] at h g
  have := cmp_trans _ _ _ h g
  rw [cmp_self] at this
  omega
theorem less_ne {s t : Bs} (h : less s t = true) : s ≠ t := by
  rintro rfl
  rw [less_irrefl] at h
  cases h
/-- the field of that name, what stands ahead of it and behind it -/
theorem rise_split {fs : List (Bs × α)} (hr : Rising fs) {s : Bs} (ha : (fs.any fun f => f.1 == s) = true) :
    ∃ A c C, fs = A ++ (s, c) :: C ∧ placeOfName fs s = A.length ∧ (∀ f ∈ A, less f.1 s = true) ∧ ∀ f ∈ C, less s f.1 = true := by
  have hp := any_place hr s
  rw [ha] at hp
  cases hf : fs[placeOfName fs s]? with
  | none => rw [hf] at hp; cases hp
  | some f =>
    rw [hf] at hp
    have he := cmp_eq _ _ (of_decide_eq_true hp.symm)
    obtain ⟨hl, hg⟩ := List.getElem?_eq_some_iff.1 hf
    have hd : fs.drop (placeOfName fs s) = f :: fs.drop (placeOfName fs s + 1) := by rw [List.drop_eq_getElem_cons hl, hg]
    have hsp : fs = fs.take (placeOfName fs s) ++ (s, f.2) :: fs.drop (placeOfName fs s + 1) := by
      have h1 := (List.take_append_drop (placeOfName fs s) fs).symm
      rw [hd] at h1
      have e : f = (s, f.2) := by rw [← he]
      rw [e] at h1
      exact h1
    refine ⟨fs.take (placeOfName fs s), f.2, fs.drop (placeOfName fs s + 1), hsp, ?_, ?_, ?_⟩
    · rw [List.length_take]
      omega
    · intro g hg'
      obtain ⟨x, hx, rfl⟩ := List.getElem_of_mem hg'
      have hx' : x < placeOfName fs s := by rw [List.length_take] at hx; omega
      exact (place_spec fs s).1 x _ hx' (by rw [List.getElem_take]; exact List.getElem?_eq_getElem (by omega))
    · have hr2 := hr
      rw [hsp] at hr2
      unfold Rising at hr2
      rw [List.pairwise_append] at hr2
      exact (List.pairwise_cons.1 hr2.2.1).1
theorem any_mid {A C : List (Bs × α)} {s : Bs} {c : α} : ((A ++ (s, c) :: C).any fun f => f.1 == s) = true := by simp
theorem place_mid {A X : List (Bs × α)} {s : Bs} (hA : ∀ f ∈ A, less f.1 s = true) (hX : ∀ f, X[0]? = some f → less f.1 s = false) : placeOfName (A ++ X) s = A.length := by
  refine place_of _ _ _ (by simp) (fun x f hx hf => ?_) (fun f hf => ?_)
  · rw [List.getElem?_append_left hx] at hf
    exact hA f (List.mem_of_getElem? hf)
  · rw [List.getElem?_append_right (Nat.le_refl _), Nat.sub_self] at hf
    exact hX f hf
theorem place_hit {A C : List (Bs × α)} {s : Bs} {c : α} (hA : ∀ f ∈ A, less f.1 s = true) : placeOfName (A ++ (s, c) :: C) s = A.length :=
  place_mid hA (fun f hf => by
    simp at hf
    subst hf
    exact less_irrefl s)
theorem place_gap {A C : List (Bs × α)} {s : Bs} (hA : ∀ f ∈ A, less f.1 s = true) (hC : ∀ f ∈ C, less s f.1 = true) : placeOfName (A ++ C) s = A.length :=
  place_mid hA (fun f hf => less_asymm (hC f (List.mem_of_getElem? hf)))
theorem any_gap {A C : List (Bs × α)} {s : Bs} (hA : ∀ f ∈ A, less f.1 s = true) (hC : ∀ f ∈ C, less s f.1 = true) : ((A ++ C).any fun f => f.1 == s) = false := by
  rw [List.any_eq_false]
  intro f hf he
  have he' : f.1 = s := by simpa using he
  rcases List.mem_append.1 hf with h | h
  · exact less_ne (hA f h) he'
  · exact less_ne (hC f h) he'.symm
theorem fieldAt_mid {A C : List (Bs × α)} {s : Bs} {c : α} (hA : ∀ f ∈ A, less f.1 s = true) : fieldAt (A ++ (s, c) :: C) s = some c := by
  unfold fieldAt
  rw [any_mid, if_pos rfl, place_hit hA]
  simp
theorem fieldAt_some {fs : List (Bs × α)} {s : Bs} {c : α} (h : fieldAt fs s = some c) : (fs.any fun f => f.1 == s) = true := by
  unfold fieldAt at h
  split at h
  · assumption
  · cases h
theorem fieldAt_split {fs : List (Bs × α)} (hr : Rising fs) {s : Bs} {c : α} (h : fieldAt fs s = some c) :
    ∃ A C, fs = A ++ (s, c) :: C ∧ (∀ f ∈ A, less f.1 s = true) ∧ ∀ f ∈ C, less s f.1 = true := by
  obtain ⟨A, c', C, rfl, hp, hA, hC⟩ := rise_split hr (fieldAt_some h)
  rw [fieldAt_mid hA] at h
  cases h
  exact ⟨A, C, rfl, hA, hC⟩
theorem setAt_mid {A C : List (Bs × α)} {s : Bs} {c v : α} (hA : ∀ f ∈ A, less f.1 s = true) : setAt (A ++ (s, c) :: C) s v = A ++ (s, v) :: C := by
  unfold setAt
  rw [any_mid, if_pos rfl, place_hit hA, List.take_left, List.drop_append]
  simp
theorem setAt_gap {A C : List (Bs × α)} {s : Bs} {v : α} (hA : ∀ f ∈ A, less f.1 s = true) (hC : ∀ f ∈ C, less s f.1 = true) : setAt (A ++ C) s v = A ++ (s, v) :: C := by
  unfold setAt
  rw [any_gap hA hC, if_neg (by decide), place_gap hA hC, List.take_left, Nat.add_zero, List.drop_left]
theorem cutAt_mid {A C : List (Bs × α)} {s : Bs} {c : α} (hA : ∀ f ∈ A, less f.1 s = true) : cutAt (A ++ (s, c) :: C) s = A ++ C := by
  unfold cutAt
  rw [place_hit hA, List.take_left, List.drop_append]
  simp
theorem repl_mid {A C : List (Bs × α)} {s : Bs} {c v : α} (hA : ∀ f ∈ A, less f.1 s = true) (hC : ∀ f ∈ C, less s f.1 = true) : repl (A ++ (s, c) :: C) s v = A ++ (s, v) :: C := by
  unfold repl
  rw [List.map_append, List.map_cons]
  have e1 : (A.map fun f => if f.1 == s then (f.1, v) else f) = A := (List.map_congr_left (g := id) (fun f hf => by
    rw [if_neg (by simpa using less_ne (hA f hf))]
    rfl)).trans (List.map_id _)
  have e2 : (C.map fun f => if f.1 == s then (f.1, v) else f) = C := (List.map_congr_left (g := id) (fun f hf => by
    rw [if_neg (by simpa using (less_ne (hC f hf)).symm)]
    rfl)).trans (List.map_id _)
  rw [e1, e2]
  simp
theorem setAt_repl {fs : List (Bs × α)} (hr : Rising fs) {s : Bs} {c v : α} (h : fieldAt fs s = some c) : setAt fs s v = repl fs s v := by
  obtain ⟨A, C, rfl, hA, hC⟩ := fieldAt_split hr h
  rw [setAt_mid hA, repl_mid hA hC]
theorem repl_names (fs : List (Bs × α)) (s : Bs) (v : α) : (repl fs s v).map (·.1) = fs.map (·.1) := by
  unfold repl
  rw [List.map_map]
  refine List.map_congr_left fun f _ => ?_
  show (if f.1 == s then (f.1, v) else f).1 = f.1
  split <;> rfl
theorem place_names {fs gs : List (Bs × α)} (h : fs.map (·.1) = gs.map (·.1)) (s : Bs) : placeOfName fs s = placeOfName gs s ∧ (fs.any fun f => f.1 == s) = (gs.any fun f => f.1 == s) := by
  have e : ∀ l : List (Bs × α), placeOfName l s = ((l.map (·.1)).takeWhile fun x => less x s).length := fun l => by
    unfold placeOfName
    rw [List.takeWhile_map, List.length_map]
    rfl
  have e2 : ∀ l : List (Bs × α), (l.any fun f => f.1 == s) = (l.map (·.1)).any fun x => x == s := fun l => by
    rw [List.any_map]
    rfl
  rw [e, e, e2, e2, h]
  exact ⟨rfl, rfl⟩
theorem rising_names {fs gs : List (Bs × α)} (h : fs.map (·.1) = gs.map (·.1)) (hr : Rising fs) : Rising gs := by
  have e : ∀ l : List (Bs × α), Rising l ↔ (l.map (·.1)).Pairwise fun a b => less a b = true := fun l => by
    unfold Rising
    rw [List.pairwise_map]
  rw [e] at hr ⊢
  rw [← h]
  exact hr
theorem rising_repl {fs : List (Bs × α)} (hr : Rising fs) (s : Bs) (v : α) : Rising (repl fs s v) := rising_names (repl_names fs s v).symm hr
theorem fieldAt_repl {fs : List (Bs × α)} (hr : Rising fs) {s : Bs} {c v : α} (h : fieldAt fs s = some c) : fieldAt (repl fs s v) s = some v := by
  obtain ⟨A, C, rfl, hA, hC⟩ := fieldAt_split hr h
  rw [repl_mid hA hC, fieldAt_mid hA]
theorem fieldAt_other (fs : List (Bs × α)) {s t : Bs} {v : α} (hr : Rising fs) (h : t ≠ s) : fieldAt (repl fs s v) t = fieldAt fs t := by
  have hn := place_names (repl_names fs s v) t
  unfold fieldAt
  rw [hn.1, hn.2]
  split
  · rename_i ha
    obtain ⟨A, c, C, rfl, hp, hA, hC⟩ := rise_split hr ha
    rw [hp]
    unfold repl
    simp [h]
  · rfl
theorem repl_same {fs : List (Bs × α)} (hr : Rising fs) {s : Bs} {c : α} (h : fieldAt fs s = some c) : repl fs s c = fs := by
  obtain ⟨A, C, rfl, hA, hC⟩ := fieldAt_split hr h
  rw [repl_mid hA hC]
theorem repl_twice (fs : List (Bs × α)) (s : Bs) (v w : α) : repl (repl fs s v) s w = repl fs s w := by
  unfold repl
  rw [List.map_map]
  refine List.map_congr_left fun f _ => ?_
  simp only [Function.comp]
  by_cases h : f.1 == s
  · simp [h]
  · simp [h]
theorem repl_comm (fs : List (Bs × α)) {s t : Bs} (v w : α) (h : s ≠ t) : repl (repl fs s v) t w = repl (repl fs t w) s v := by
  unfold repl
  rw [List.map_map, List.map_map]
  refine List.map_congr_left fun f _ => ?_
  simp only [Function.comp]
  by_cases h1 : f.1 = s
  · have h2 : ¬ f.1 = t := fun e => h (h1.symm.trans e)
    simp [h1, h2, h]
  · by_cases h2 : f.1 = t
    · simp [h1, h2, Ne.symm h]
    · simp [h1, h2]
theorem mem_repl {fs : List (Bs × α)} {s : Bs} {v : α} {f : Bs × α} (h : f ∈ repl fs s v) : ∃ g ∈ fs, f.1 = g.1 ∧ (f.2 = v ∨ f.2 = g.2) := by
  obtain ⟨g, hg, rfl⟩ := List.mem_map.1 h
  by_cases hs : g.1 == s
  · exact ⟨g, hg, by rw [if_pos hs], Or.inl (by rw [if_pos hs])⟩
  · exact ⟨g, hg, by rw [if_neg hs], Or.inr (by rw [if_neg hs])⟩
theorem fieldAt_mem {fs : List (Bs × α)} {s : Bs} {c : α} (hr : Rising fs) (h : fieldAt fs s = some c) : (s, c) ∈ fs := by
  obtain ⟨A, C, rfl, hA, hC⟩ := fieldAt_split hr h
  simp
end
/-! One step. -/
/-- what a step leads to -/
def childP {n : Nat} (j : J (n + 1)) (s : Bs) : Option (J n) :=
  match j with
  | Sum.inl _ => none
  | Sum.inr (Sum.inl xs) => (placeP s).bind fun i => xs[i]?
  | Sum.inr (Sum.inr fs) => fieldAt fs s
/-- with another value there -/
def replP {n : Nat} (j : J (n + 1)) (s : Bs) (c : J n) : J (n + 1) :=
  match j with
  | Sum.inl l => Sum.inl l
  | Sum.inr (Sum.inl xs) => match placeP s with
    | none => Sum.inr (Sum.inl xs)
    | some i => Sum.inr (Sum.inl (xs.set i c))
  | Sum.inr (Sum.inr fs) => Sum.inr (Sum.inr (repl fs s c))
/-- the place at which something is put into a list -/
def putIdx (len : Nat) (s : Bs) : Option Nat := if s = [45] then some len else (placeP s).bind fun i => if i ≤ len then some i else none
/-- what is put there -/
def putAt {n : Nat} (j : J (n + 1)) (s : Bs) (c : J n) : Except Nat (J (n + 1)) :=
  match j with
  | Sum.inl _ => .error eNone
  | Sum.inr (Sum.inl xs) => match putIdx xs.length s with
    | none => .error eNone
    | some i => .ok (Sum.inr (Sum.inl (xs.take i ++ c :: xs.drop (i + 1))))
  | Sum.inr (Sum.inr fs) => .ok (Sum.inr (Sum.inr (setAt fs s c)))
/-- what is cut there -/
def cutE {n : Nat} (j : J (n + 1)) (s : Bs) : Except Nat (J (n + 1)) :=
  match j with
  | Sum.inl _ => .error eNone
  | Sum.inr (Sum.inl xs) => match placeP s with
    | none => .error eNone
    | some i => if i < xs.length then .ok (Sum.inr (Sum.inl (xs.take i ++ xs.drop (i + 1)))) else .error eNone
  | Sum.inr (Sum.inr fs) => if fs.any (fun f => f.1 == s) then .ok (Sum.inr (Sum.inr (cutAt fs s))) else .error eNone
/-- the fields of all objects rise -/
def Rise : (n : Nat) → J n → Prop
  | 0, _ => True
  | _ + 1, Sum.inl _ => True
  | n + 1, Sum.inr (Sum.inl xs) => ∀ x ∈ xs, Rise n x
  | n + 1, Sum.inr (Sum.inr fs) => Rising fs ∧ ∀ f ∈ fs, Rise n f.2
theorem rise_of_good : ∀ (n : Nat) (j : J n), Good n j → Rise n j
  | 0, _, _ => trivial
  | _ + 1, Sum.inl _, _ => trivial
  | n + 1, Sum.inr (Sum.inl xs), h => fun x hx => rise_of_good n x (h x hx)
  | n + 1, Sum.inr (Sum.inr fs), h => ⟨h.1, fun f hf => rise_of_good n f.2 (h.2 f hf).2⟩
section
variable {n : Nat} {j : J (n + 1)} {s t : Bs} {c d : J n}
theorem rise_child (hr : Rise (n + 1) j) (h : childP j s = some c) : Rise n c := by
  match j, hr, h with
  | Sum.inr (Sum.inl xs), hr, h =>
    obtain ⟨i, hi, hx⟩ := Option.bind_eq_some_iff.1 (show ((placeP s).bind fun i => xs[i]?) = some c from h)
    exact hr c (List.mem_of_getElem? hx)
  | Sum.inr (Sum.inr fs), hr, h => exact hr.2 (s, c) (fieldAt_mem hr.1 h)
theorem good_child (hr : Good (n + 1) j) (h : childP j s = some c) : Good n c := by
  match j, hr, h with
  | Sum.inl _, hr, h =>
    have h : (none : Option (J n)) = some c := h
    cases h
  | Sum.inr (Sum.inl xs), hr, h =>
    obtain ⟨i, hi, hx⟩ := Option.bind_eq_some_iff.1 (show ((placeP s).bind fun i => xs[i]?) = some c from h)
    exact hr c (List.mem_of_getElem? hx)
  | Sum.inr (Sum.inr fs), hr, h => exact (hr.2 (s, c) (fieldAt_mem hr.1 h)).2
theorem put_list {xs : List (J n)} {i : Nat} (hi : placeP s = some i) (hl : i < xs.length) : putAt (Sum.inr (Sum.inl xs)) s d = .ok (replP (Sum.inr (Sum.inl xs)) s d) := by
    have hne : s ≠ [45] := by
      rintro rfl
      rw [placeP_dash] at hi
      cases hi
    have hp : putIdx xs.length s = some i := by
      unfold putIdx
      rw [if_neg hne, hi, Option.bind_some, if_pos (by omega)]
    unfold putAt replP
    simp only [hp, hi]
    rw [List.set_eq_take_append_cons_drop, if_pos hl]
set_option maxRecDepth 10000 in
theorem put_repl (hr : Rise (n + 1) j) (h : childP j s = some c) : putAt j s d = .ok (replP j s d) := by
  match j, hr, h with
  | Sum.inr (Sum.inl xs), hr, h =>
    obtain ⟨i, hi, hx⟩ := Option.bind_eq_some_iff.1 (show ((placeP s).bind fun i => xs[i]?) = some c from h)
    obtain ⟨hl, _⟩ := List.getElem?_eq_some_iff.1 hx
    exact put_list hi hl
  | Sum.inr (Sum.inr fs), hr, h =>
    show Except.ok (Sum.inr (Sum.inr (setAt fs s d))) = Except.ok (Sum.inr (Sum.inr (repl fs s d)))
    rw [setAt_repl hr.1 h]
theorem child_repl (hr : Rise (n + 1) j) (h : childP j s = some c) : childP (replP j s d) s = some d := by
  match j, hr, h with
  | Sum.inr (Sum.inl xs), hr, h =>
    obtain ⟨i, hi, hx⟩ := Option.bind_eq_some_iff.1 (show ((placeP s).bind fun i => xs[i]?) = some c from h)
    obtain ⟨hl, _⟩ := List.getElem?_eq_some_iff.1 hx
    unfold replP
    simp only [hi]
    show ((placeP s).bind fun k => (xs.set i d)[k]?) = some d
    rw [hi]
    simp [hl]
  | Sum.inr (Sum.inr fs), hr, h => exact fieldAt_repl hr.1 h
theorem child_other (hr : Rise (n + 1) j) (hne : t ≠ s) : childP (replP j s d) t = childP j t := by
  match j, hr with
  | Sum.inl _, hr => rfl
  | Sum.inr (Sum.inl xs), hr =>
    unfold replP
    cases hi : placeP s with
    | none => rfl
    | some i =>
      simp only []
      show ((placeP t).bind fun k => (xs.set i d)[k]?) = (placeP t).bind fun k => xs[k]?
      cases hk : placeP t with
      | none => rfl
      | some k =>
        have hik : i ≠ k := by
          rintro rfl
          exact hne (placeP_inj hk hi)
        simp only [Option.bind_some]
        rw [List.getElem?_set_ne hik]
  | Sum.inr (Sum.inr fs), hr => exact fieldAt_other fs hr.1 hne
theorem repl_child (hr : Rise (n + 1) j) (h : childP j s = some c) : replP j s c = j := by
  match j, hr, h with
  | Sum.inr (Sum.inl xs), hr, h =>
    obtain ⟨i, hi, hx⟩ := Option.bind_eq_some_iff.1 (show ((placeP s).bind fun i => xs[i]?) = some c from h)
    obtain ⟨hl, hx'⟩ := List.getElem?_eq_some_iff.1 hx
    unfold replP
    simp only [hi]
    rw [← hx', List.set_getElem_self hl]
  | Sum.inr (Sum.inr fs), hr, h =>
    show Sum.inr (Sum.inr (repl fs s c)) = (Sum.inr (Sum.inr fs) : J (n + 1))
    rw [repl_same hr.1 h]
theorem replP_twice : replP (replP j s c) s d = replP j s d := by
  match j with
  | Sum.inl _ => rfl
  | Sum.inr (Sum.inl xs) =>
    unfold replP
    cases hi : placeP s with
    | none => rfl
    | some i =>
      simp only []
      rw [List.set_set]
  | Sum.inr (Sum.inr fs) =>
    show Sum.inr (Sum.inr (repl (repl fs s c) s d)) = (Sum.inr (Sum.inr (repl fs s d)) : J (n + 1))
    rw [repl_twice]
theorem replP_comm (hne : s ≠ t) : replP (replP j s c) t d = replP (replP j t d) s c := by
  match j with
  | Sum.inl _ => rfl
  | Sum.inr (Sum.inl xs) =>
    unfold replP
    cases hi : placeP s with
    | none =>
      cases hk : placeP t with
      | none => rfl
      | some k => rfl
    | some i =>
      cases hk : placeP t with
      | none => rfl
      | some k =>
        have hik : i ≠ k := by
          rintro rfl
          exact hne (placeP_inj hi hk)
        simp only []
        rw [List.set_comm _ _ hik]
  | Sum.inr (Sum.inr fs) =>
    show Sum.inr (Sum.inr (repl (repl fs s c) t d)) = (Sum.inr (Sum.inr (repl (repl fs t d) s c)) : J (n + 1))
    rw [repl_comm fs c d hne]
theorem rise_repl (hr : Rise (n + 1) j) (hd : Rise n d) : Rise (n + 1) (replP j s d) := by
  match j, hr with
  | Sum.inl _, hr => exact trivial
  | Sum.inr (Sum.inl xs), hr =>
    unfold replP
    cases hi : placeP s with
    | none => exact hr
    | some i =>
      intro x hx
      rcases List.mem_or_eq_of_mem_set hx with h | rfl
      · exact hr x h
      · exact hd
  | Sum.inr (Sum.inr fs), hr =>
    refine ⟨rising_repl hr.1 s d, fun f hf => ?_⟩
    obtain ⟨g, hg, _, h | h⟩ := mem_repl hf
    · rw [h]; exact hd
    · rw [h]; exact hr.2 g hg
theorem good_repl (hr : Good (n + 1) j) (hd : Good n d) : Good (n + 1) (replP j s d) := by
  match j, hr with
  | Sum.inl _, hr => exact hr
  | Sum.inr (Sum.inl xs), hr =>
    unfold replP
    cases hi : placeP s with
    | none => exact hr
    | some i =>
      intro x hx
      rcases List.mem_or_eq_of_mem_set hx with h | rfl
      · exact hr x h
      · exact hd
  | Sum.inr (Sum.inr fs), hr =>
    refine ⟨rising_repl hr.1 s d, fun f hf => ?_⟩
    obtain ⟨g, hg, h1, h | h⟩ := mem_repl hf
    · exact ⟨by rw [h1]; exact (hr.2 g hg).1, by rw [h]; exact hd⟩
    · exact ⟨by rw [h1]; exact (hr.2 g hg).1, by rw [h]; exact (hr.2 g hg).2⟩
end
/-! Several steps. -/
/-- what steps lead to -/
def getP : (n : Nat) → J n → List Bs → Option (J n)
  | n, j, [] => some j
  | 0, _, _ :: _ => none
  | n + 1, j, s :: r => (childP j s).bind fun c => (getP n c r).map (lift n (n + 1))
/-- what is made of it by what is done where the steps lead -/
def changeP : (n : Nat) → J n → List Bs → ((m : Nat) → J m → Except Nat (J m)) → Except Nat (J n)
  | n, j, [], e => e n j
  | 0, _, _ :: _, _ => .error eNone
  | n + 1, j, s :: r, e => match childP j s with
    | none => .error eNone
    | some c => match changeP n c r e with
      | .error x => .error x
      | .ok c' => putAt j s c'
/-- with another value where the steps lead -/
def setP : (n : Nat) → J n → List Bs → ((m : Nat) → J m) → J n
  | n, _, [], it => it n
  | 0, j, _ :: _, _ => j
  | n + 1, j, s :: r, it => match childP j s with
    | none => j
    | some c => replP j s (setP n c r it)
def putEnd (it : (m : Nat) → J m) (s : Bs) : (m : Nat) → J m → Except Nat (J m)
  | 0, _ => .error eNone
  | m + 1, j => putAt j s (it m)
def cutEnd (s : Bs) : (m : Nat) → J m → Except Nat (J m)
  | 0, _ => .error eNone
  | _ + 1, j => cutE j s
theorem getP_step {n : Nat} {j : J (n + 1)} {s : Bs} {r : List Bs} {c : J (n + 1)} (h : getP (n + 1) j (s :: r) = some c) : ∃ c1 c2, childP j s = some c1 ∧ getP n c1 r = some c2 ∧ c = lift n (n + 1) c2 := by
  obtain ⟨c1, h1, h2⟩ := Option.bind_eq_some_iff.1 (show ((childP j s).bind fun c => (getP n c r).map (lift n (n + 1))) = some c from h)
  obtain ⟨c2, h3, h4⟩ := Option.map_eq_some_iff.1 h2
  exact ⟨c1, c2, h1, h3, h4.symm⟩
/-- put where there is something: it is that, instead -/
theorem change_put (it : (m : Nat) → J m) (s : Bs) : ∀ (l : List Bs) (n : Nat) (j : J n) (c : J n), Rise n j → getP n j (l ++ [s]) = some c → changeP n j l (putEnd it s) = .ok (setP n j (l ++ [s]) it)
  | [], 0, j, c, hr, h => by cases h
  | [], n + 1, j, c, hr, h => by
    obtain ⟨c1, c2, h1, h2, rfl⟩ := getP_step h
    show putAt j s (it n) = .ok (match childP j s with
      | none => j
      | some c => replP j s (setP n c [] it))
    rw [h1, put_repl hr h1]
    cases n <;> rfl
  | t :: r, 0, j, c, hr, h => by cases h
  | t :: r, n + 1, j, c, hr, h => by
    obtain ⟨c1, c2, h1, h2, rfl⟩ := getP_step h
    have ih := change_put it s r n c1 c2 (rise_child hr h1) h2
    show (match childP j t with
      | none => Except.error eNone
      | some c => match changeP n c r (putEnd it s) with
        | .error x => .error x
        | .ok c' => putAt j t c') = .ok (match childP j t with
      | none => j
      | some c => replP j t (setP n c (r ++ [s]) it))
    rw [h1]
    simp only [ih]
    rw [put_repl hr h1]
theorem set_get : ∀ (l : List Bs) (n : Nat) (j c : J n) (it : (m : Nat) → J m), Rise n j → getP n j l = some c → (∀ (m : Nat) (c0 : J m), m ≤ n → lift m n c0 = c → it m = c0) → setP n j l it = j
  | [], n, j, c, it, hr, h, hit => by
    have e : j = c := by cases n <;> exact Option.some.inj h
    have := hit n j (Nat.le_refl _) (by rw [lift_self, e])
    cases n <;> exact this
  | s :: r, 0, j, c, it, hr, h, hit => by cases h
  | s :: r, n + 1, j, c, it, hr, h, hit => by
    obtain ⟨c1, c2, h1, h2, rfl⟩ := getP_step h
    have ih := set_get r n c1 c2 it (rise_child hr h1) h2 (fun m c0 hm e => hit m c0 (by omega) (by
      rw [← e, lift_lift _ _ _ _ (Nat.le_trans (depth_bound m c0) hm)]))
    show (match childP j s with
      | none => j
      | some c => replP j s (setP n c r it)) = j
    rw [h1]
    simp only [ih]
    exact repl_child hr h1
/-- one list of steps begins another -/
def begins (a b : List Bs) : Prop := ∃ r, b = a ++ r
theorem rise_set (it : (m : Nat) → J m) (hit : ∀ m, Rise m (it m)) : ∀ (l : List Bs) (n : Nat) (j : J n), Rise n j → Rise n (setP n j l it)
  | [], n, j, hr => by cases n <;> exact hit _
  | s :: r, 0, j, hr => hr
  | s :: r, n + 1, j, hr => by
    show Rise (n + 1) (match childP j s with
      | none => j
      | some c => replP j s (setP n c r it))
    cases h : childP j s with
    | none => exact hr
    | some c => exact rise_repl hr (rise_set it hit r n c (rise_child hr h))
theorem good_set (it : (m : Nat) → J m) (hit : ∀ m, Good m (it m)) : ∀ (l : List Bs) (n : Nat) (j : J n), Good n j → Good n (setP n j l it)
  | [], n, j, hr => by cases n <;> exact hit _
  | s :: r, 0, j, hr => hr
  | s :: r, n + 1, j, hr => by
    show Good (n + 1) (match childP j s with
      | none => j
      | some c => replP j s (setP n c r it))
    cases h : childP j s with
    | none => exact hr
    | some c => exact good_repl hr (good_set it hit r n c (good_child hr h))
/-- what is put elsewhere leaves a place where it was -/
theorem get_other (it : (m : Nat) → J m) : ∀ (a b : List Bs) (n : Nat) (j c d : J n), Rise n j → (∀ m, Rise m (it m)) → getP n j a = some c → getP n j b = some d → ¬ begins a b → ∃ e, getP n (setP n j a it) b = some e
  | [], b, n, j, c, d, hr, hit, ha, hb, hne => absurd ⟨b, rfl⟩ hne
  | s :: a, [], n, j, c, d, hr, hit, ha, hb, hne => ⟨setP n j (s :: a) it, by cases n <;> rfl⟩
  | s :: a, t :: b, 0, j, c, d, hr, hit, ha, hb, hne => by cases ha
  | s :: a, t :: b, n + 1, j, c, d, hr, hit, ha, hb, hne => by
    obtain ⟨c1, c2, h1, h2, rfl⟩ := getP_step ha
    obtain ⟨d1, d2, g1, g2, rfl⟩ := getP_step hb
    have e : setP (n + 1) j (s :: a) it = replP j s (setP n c1 a it) := by
      show (match childP j s with
        | none => j
        | some c => replP j s (setP n c a it)) = _
      rw [h1]
    rw [e]
    by_cases hst : t = s
    · subst hst
      rw [h1] at g1
      cases g1
      obtain ⟨x, hx⟩ := get_other it a b n c1 c2 d2 (rise_child hr h1) hit h2 g2 (fun ⟨r, hr'⟩ => hne ⟨r, by rw [hr']; rfl⟩)
      refine ⟨lift n (n + 1) x, ?_⟩
      show ((childP (replP j t (setP n c1 a it)) t).bind fun c => (getP n c b).map (lift n (n + 1))) = _
      rw [child_repl hr h1, Option.bind_some, hx]
      rfl
    · refine ⟨lift n (n + 1) d2, ?_⟩
      show ((childP (replP j s (setP n c1 a it)) t).bind fun c => (getP n c b).map (lift n (n + 1))) = _
      rw [child_other hr hst, g1, Option.bind_some, g2]
      rfl
theorem set_comm (it iu : (m : Nat) → J m) : ∀ (a b : List Bs) (n : Nat) (j c d : J n), Rise n j → (∀ m, Rise m (it m)) → (∀ m, Rise m (iu m)) → getP n j a = some c → getP n j b = some d → ¬ begins a b → ¬ begins b a → setP n (setP n j a it) b iu = setP n (setP n j b iu) a it
  | [], b, n, j, c, d, hr, hit, hiu, ha, hb, hne, hnf => absurd ⟨b, rfl⟩ hne
  | s :: a, [], n, j, c, d, hr, hit, hiu, ha, hb, hne, hnf => absurd ⟨s :: a, rfl⟩ hnf
  | s :: a, t :: b, 0, j, c, d, hr, hit, hiu, ha, hb, hne, hnf => by cases ha
  | s :: a, t :: b, n + 1, j, c, d, hr, hit, hiu, ha, hb, hne, hnf => by
    obtain ⟨c1, c2, h1, h2, rfl⟩ := getP_step ha
    obtain ⟨d1, d2, g1, g2, rfl⟩ := getP_step hb
    have e : ∀ (i : J (n + 1)) (u : Bs) (l : List Bs) (v : (m : Nat) → J m) (x : J n), childP i u = some x → setP (n + 1) i (u :: l) v = replP i u (setP n x l v) := fun i u l v x hx => by
      show (match childP i u with
        | none => i
        | some c => replP i u (setP n c l v)) = _
      rw [hx]
    rw [e j s a it c1 h1, e j t b iu d1 g1]
    by_cases hst : t = s
    · subst hst
      rw [h1] at g1
      cases g1
      rw [e _ t b iu _ (child_repl hr h1), e _ t a it _ (child_repl hr h1), replP_twice, replP_twice]
      rw [set_comm it iu a b n c1 c2 d2 (rise_child hr h1) hit hiu h2 g2 (fun ⟨r, hr'⟩ => hne ⟨r, by rw [hr']; rfl⟩) (fun ⟨r, hr'⟩ => hnf ⟨r, by rw [hr']; rfl⟩)]
    · rw [e _ t b iu d1 (by rw [child_other hr hst]; exact g1), e _ s a it c1 (by rw [child_other hr (Ne.symm hst)]; exact h1)]
      exact replP_comm (Ne.symm hst)
end Go.Proofs.YtaogilpkeeigoabGreatDoor
