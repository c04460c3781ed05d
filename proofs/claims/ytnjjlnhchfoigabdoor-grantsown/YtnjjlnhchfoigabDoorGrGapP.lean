/- What a rule allows beyond others: the plain side. -/
import Derived.Test.YtnjjlnhchfoigabDoorGrPlain
namespace Go.Proofs.YtnjjlnhchfoigabDoor
set_option linter.unusedVariables false
/-- each word once -/
def addW (t : List Bs) (s : Bs) : List Bs := if s ∈ t then t else t ++ [s]
def onceP (l : List Bs) : List Bs := l.foldl addW []
theorem once_succ (l : List Bs) {k : Nat} (hk : k < l.length) : onceP (l.take (k + 1)) = addW (onceP (l.take k)) l[k] := by
  unfold onceP
  rw [List.take_succ_eq_append_getElem hk, List.foldl_append]
  rfl
theorem addW_mem {t : List Bs} {s x : Bs} : x ∈ addW t s ↔ x ∈ t ∨ x = s := by
  unfold addW
  split
  · rename_i h
    exact ⟨Or.inl, fun g => g.elim id (fun e => e ▸ h)⟩
  · simp
theorem fold_mem {x : Bs} : ∀ {l t : List Bs}, x ∈ l.foldl addW t ↔ x ∈ t ∨ x ∈ l
  | [], t => by simp
  | s :: r, t => by
    rw [List.foldl_cons, fold_mem, addW_mem, List.mem_cons, or_assoc]
theorem once_mem {l : List Bs} {x : Bs} : x ∈ onceP l ↔ x ∈ l := by
  unfold onceP
  rw [fold_mem]
  simp
theorem addW_nodup {t : List Bs} {s : Bs} (h : t.Nodup) : (addW t s).Nodup := by
  unfold addW
  split
  · exact h
  · rename_i hs
    rw [List.nodup_append]
    refine ⟨h, by simp, fun a ha b hb => ?_⟩
    rw [List.mem_singleton] at hb
    subst hb
    intro e
    subst e
    exact hs ha
theorem fold_nodup : ∀ {l t : List Bs}, t.Nodup → (l.foldl addW t).Nodup
  | [], _, h => h
  | _ :: r, _, h => fold_nodup (l := r) (addW_nodup h)
theorem once_nodup (l : List Bs) : (onceP l).Nodup := fold_nodup List.nodup_nil
theorem addW_len {t : List Bs} {s : Bs} : (addW t s).length ≤ t.length + 1 := by
  unfold addW
  split <;> simp
theorem fold_len : ∀ {l t : List Bs}, (l.foldl addW t).length ≤ t.length + l.length
  | [], t => by simp
  | s :: r, t => by
    have h1 := fold_len (l := r) (t := addW t s)
    have h2 := addW_len (t := t) (s := s)
    rw [List.foldl_cons, List.length_cons]
    omega
theorem once_len (l : List Bs) : (onceP l).length ≤ l.length := by
  have := fold_len (l := l) (t := [])
  simpa [onceP] using this
/-- the sides of a rule -/
def signP (side : Nat) : Bs := if side = 2 then [] else [42]
def sideL (r : Rl) (side : Nat) : List Bs := if side = 0 then r.1 else if side = 1 then r.2.1 else r.2.2
def emptyB (s : Bs) : Bool := decide (s = [])
def wordsP (r : Rl) (side : Nat) : List Bs :=
  if side = 0 then onceP r.1 else if side = 1 then onceP r.2.1 else if r.2.2.length = 0 then [[]] else (onceP r.2.2).filter fun s => !emptyB s
theorem words_nodup (r : Rl) (side : Nat) : (wordsP r side).Nodup := by
  unfold wordsP
  split
  · exact once_nodup _
  · split
    · exact once_nodup _
    · split
      · simp
      · exact (once_nodup _).filter _
theorem words_len (r : Rl) (side : Nat) : (wordsP r side).length ≤ r.1.length + r.2.1.length + r.2.2.length + 1 := by
  unfold wordsP
  have h0 := once_len r.1
  have h1 := once_len r.2.1
  have h2 := once_len r.2.2
  split
  · omega
  · split
    · omega
    · split
      · simp
      · have := List.length_filter_le (fun s => !emptyB s) (onceP r.2.2)
        omega
/-- has a rule a word on a side, or what stands for all? -/
def hasS (r : Rl) (side : Nat) (w : Bs) : Bool := decide (signP side ∈ wordsP r side) || decide (w ∈ wordsP r side)
theorem has0 (r : Rl) (w : Bs) : hasS r 0 w = hasB r.1 w := by
  unfold hasS hasB
  have e : ∀ x, x ∈ wordsP r 0 ↔ x ∈ r.1 := fun x => once_mem
  simp only [e]
  rw [Bool.or_comm]
  rfl
theorem has1 (r : Rl) (w : Bs) : hasS r 1 w = hasB r.2.1 w := by
  unfold hasS hasB
  have e : ∀ x, x ∈ wordsP r 1 ↔ x ∈ r.2.1 := fun x => once_mem
  simp only [e]
  rw [Bool.or_comm]
  rfl
theorem words2 {r : Rl} {x : Bs} : x ∈ wordsP r 2 ↔ (r.2.2.length = 0 ∧ x = []) ∨ (r.2.2.length ≠ 0 ∧ x ≠ [] ∧ x ∈ r.2.2) := by
  unfold wordsP
  rw [if_neg (by decide), if_neg (by decide)]
  split
  · rename_i h
    simp [h]
  · rename_i h
    simp only [h, false_and, ne_eq, not_false_eq_true, true_and, false_or, List.mem_filter, once_mem]
    unfold emptyB
    simp only [Bool.not_eq_true', decide_eq_false_iff_not]
    exact ⟨fun ⟨a, b⟩ => ⟨b, a⟩, fun ⟨a, b⟩ => ⟨b, a⟩⟩
theorem has2 (r : Rl) (w : Bs) : hasS r 2 w = nameOkB r.2.2 w := by
  unfold hasS nameOkB
  have e : signP 2 = [] := rfl
  rw [e, Bool.eq_iff_iff]
  simp only [Bool.or_eq_true, Bool.and_eq_true, Bool.not_eq_true', decide_eq_true_eq, decide_eq_false_iff_not, words2]
  constructor
  · rintro ((h | h) | (h | h))
    · exact Or.inl h.1
    · exact absurd rfl h.2.1
    · exact Or.inl h.1
    · exact Or.inr ⟨h.2.1, h.2.2⟩
  · rintro (h | h)
    · exact Or.inl (Or.inl ⟨h, trivial⟩)
    · exact Or.inr (Or.inr ⟨fun e => (by have := List.eq_nil_of_length_eq_zero e; rw [this] at h; exact absurd h.2 (by simp)), h.1, h.2⟩)
/-- which rules have whatever word on a side, and for each word where the others lie that have it -/
def wholeB (side : Nat) (r : Rl) : Bool := decide (signP side ∈ wordsP r side)
def whatP (held : List Rl) (side : Nat) : List Rl := held.filter (wholeB side)
def atB (held : List Rl) (side : Nat) (w : Bs) (i : Nat) : Bool := match held[i]? with
  | some r => !wholeB side r && decide (w ∈ wordsP r side)
  | none => false
def placesK (held : List Rl) (side k : Nat) (w : Bs) : List Nat := (List.range k).filter (atB held side w)
def placesP (held : List Rl) (side : Nat) (w : Bs) : List Nat := placesK held side held.length w
theorem places_succ (held : List Rl) (side k : Nat) (w : Bs) : placesK held side (k + 1) w = placesK held side k w ++ (if atB held side w k then [k] else []) := by
  unfold placesK
  rw [List.range_succ, List.filter_append]
  congr 1
  rw [List.filter_cons, List.filter_nil]
theorem places_lt {held : List Rl} {side k : Nat} {w : Bs} {i : Nat} (h : i ∈ placesK held side k w) : i < k := List.mem_range.1 (List.mem_filter.1 h).1
theorem places_len (held : List Rl) (side k : Nat) (w : Bs) : (placesK held side k w).length ≤ k := by
  have := List.length_filter_le (atB held side w) (List.range k)
  simpa [placesK] using this
theorem what_succ (held : List Rl) (side : Nat) {k : Nat} (hk : k < held.length) : whatP (held.take (k + 1)) side = whatP (held.take k) side ++ (if wholeB side held[k] then [held[k]] else []) := by
  unfold whatP
  rw [List.take_succ_eq_append_getElem hk, List.filter_append]
  congr 1
  rw [List.filter_cons, List.filter_nil]
theorem at_here {held : List Rl} {side : Nat} {k : Nat} (hk : k < held.length) (w : Bs) : atB held side w k = (!wholeB side held[k] && decide (w ∈ wordsP held[k] side)) := by
  unfold atB
  rw [List.getElem?_eq_getElem hk]
/-- the rules of held that have a word -/
def pickR (held : List Rl) (l : List Nat) : List Rl := l.filterMap fun i => held[i]?
def havingP (held : List Rl) (side : Nat) (w : Bs) : List Rl := whatP held side ++ pickR held (placesP held side w)
theorem pick_mem {held : List Rl} {l : List Nat} {r : Rl} : r ∈ pickR held l ↔ ∃ i ∈ l, held[i]? = some r := by
  unfold pickR
  rw [List.mem_filterMap]
theorem having_mem {held : List Rl} {side : Nat} {w : Bs} {r : Rl} : r ∈ havingP held side w ↔ r ∈ held ∧ hasS r side w = true := by
  unfold havingP whatP
  rw [List.mem_append, List.mem_filter, pick_mem]
  unfold hasS
  rw [Bool.or_eq_true, decide_eq_true_iff, decide_eq_true_iff]
  constructor
  · rintro (⟨h1, h2⟩ | ⟨i, hi, hr⟩)
    · exact ⟨h1, Or.inl (by unfold wholeB at h2; exact of_decide_eq_true h2)⟩
    · refine ⟨List.mem_of_getElem? hr, Or.inr ?_⟩
      have := (List.mem_filter.1 hi).2
      unfold atB at this
      rw [hr] at this
      simp only [Bool.and_eq_true, decide_eq_true_eq] at this
      exact this.2
  · rintro ⟨h1, h2⟩
    by_cases hw : wholeB side r = true
    · exact Or.inl ⟨h1, hw⟩
    · obtain ⟨i, hi, hr⟩ := List.getElem_of_mem h1
      refine Or.inr ⟨i, List.mem_filter.2 ⟨List.mem_range.2 hi, ?_⟩, by rw [List.getElem?_eq_getElem hi, hr]⟩
      unfold atB
      rw [List.getElem?_eq_getElem hi, hr]
      have hb : wholeB side r = false := by simpa using hw
      simp only [hb, Bool.not_false, Bool.true_and]
      rcases h2 with h2 | h2
      · exact absurd (decide_eq_true h2) hw
      · exact decide_eq_true h2
theorem what_pick_len (held : List Rl) (side : Nat) (w : Bs) : (havingP held side w).length ≤ held.length + held.length := by
  unfold havingP
  have h1 := List.length_filter_le (wholeB side) held
  have h2 := List.length_filterMap_le (fun i => held[i]?) (placesP held side w)
  have h3 := places_len held side held.length w
  rw [List.length_append]
  unfold whatP pickR placesP at *
  omega
/-- the first word of which something is told -/
def findG {α : Type} (f : Bs → Option α) : List Bs → Option (Bs × α)
  | [] => none
  | w :: r => match f w with
    | some x => some (w, x)
    | none => findG f r
theorem findG_none {α : Type} {f : Bs → Option α} : ∀ {l : List Bs}, findG f l = none ↔ ∀ w ∈ l, f w = none
  | [] => by simp [findG]
  | w :: r => by
    unfold findG
    cases h : f w with
    | some x => simp [h]
    | none => simp [h, findG_none (l := r)]
theorem findG_some {α : Type} {f : Bs → Option α} {w : Bs} {x : α} : ∀ {l : List Bs}, findG f l = some (w, x) → w ∈ l ∧ f w = some x
  | [], h => by simp [findG] at h
  | v :: r, h => by
    unfold findG at h
    cases e : f v with
    | some y =>
      rw [e] at h
      simp only [Option.some.injEq, Prod.mk.injEq] at h
      obtain ⟨rfl, rfl⟩ := h
      exact ⟨List.mem_cons_self, e⟩
    | none =>
      rw [e] at h
      obtain ⟨h1, h2⟩ := findG_some h
      exact ⟨List.mem_cons_of_mem _ h1, h2⟩
def g3 (held : List Rl) : Option Unit := if held.length = 0 then some () else none
def g2 (held : List Rl) (l2 : List Bs) : Option (Bs × Unit) := findG (fun n => g3 (havingP held 2 n)) l2
def g1 (held : List Rl) (l1 l2 : List Bs) : Option (Bs × Bs × Unit) := findG (fun k => g2 (havingP held 1 k) l2) l1
def g0 (held : List Rl) (l0 l1 l2 : List Bs) : Option (Bs × Bs × Bs × Unit) := findG (fun v => g1 (havingP held 0 v) l1 l2) l0
/-- is there no rule that has all three? -/
def gapB (held : List Rl) (v k n : Bs) : Prop := ∀ r ∈ held, ¬ (hasS r 0 v = true ∧ hasS r 1 k = true ∧ hasS r 2 n = true)
theorem g3_some {held : List Rl} {v k n : Bs} {u : Unit} : g3 (havingP (havingP (havingP held 0 v) 1 k) 2 n) = some u ↔ gapB held v k n := by
  unfold g3 gapB
  constructor
  · intro h r hr hh
    split at h
    · rename_i h0
      have h0 := List.eq_nil_of_length_eq_zero h0
      have : r ∈ havingP (havingP (havingP held 0 v) 1 k) 2 n := having_mem.2 ⟨having_mem.2 ⟨having_mem.2 ⟨hr, hh.1⟩, hh.2.1⟩, hh.2.2⟩
      rw [h0] at this
      cases this
    · cases h
  · intro h
    rw [if_pos]
    rw [List.length_eq_zero_iff, List.eq_nil_iff_forall_not_mem]
    intro r hr
    obtain ⟨h1, h2⟩ := having_mem.1 hr
    obtain ⟨h3, h4⟩ := having_mem.1 h1
    obtain ⟨h5, h6⟩ := having_mem.1 h3
    exact h r h5 ⟨h6, h4, h2⟩
theorem g0_some {held : List Rl} {l0 l1 l2 : List Bs} {v k n : Bs} {u : Unit} (h : g0 held l0 l1 l2 = some (v, k, n, u)) : v ∈ l0 ∧ k ∈ l1 ∧ n ∈ l2 ∧ gapB held v k n := by
  obtain ⟨h1, h⟩ := findG_some h
  obtain ⟨h2, h⟩ := findG_some h
  obtain ⟨h3, h⟩ := findG_some h
  exact ⟨h1, h2, h3, g3_some.1 h⟩
theorem g0_none {held : List Rl} {l0 l1 l2 : List Bs} (h : g0 held l0 l1 l2 = none) {v k n : Bs} (hv : v ∈ l0) (hk : k ∈ l1) (hn : n ∈ l2) : ¬ gapB held v k n := fun hg => by
  have h1 := findG_none.1 h v hv
  have h2 := findG_none.1 h1 k hk
  have h3 := findG_none.1 h2 n hn
  rw [g3_some (u := ()).2 hg] at h3
  cases h3
/-- words that are worth a look: the first of those that the same rules have -/
def keyStep (f : Bs → List Nat) (t : List Bs) (s : Bs) : List Bs := if ∃ x ∈ t, f x = f s then t else t ++ [s]
def addK (f : Bs → List Nat) (t : List (List Nat) × List Bs) (s : Bs) : List (List Nat) × List Bs := (f s :: t.1, if f s ∈ t.1 then t.2 else t.2 ++ [s])
def worthK (f : Bs → List Nat) (l : List Bs) : List (List Nat) × List Bs := l.foldl (addK f) ([], [])
theorem worthK_succ (f : Bs → List Nat) (l : List Bs) {k : Nat} (hk : k < l.length) : worthK f (l.take (k + 1)) = addK f (worthK f (l.take k)) l[k] := by
  unfold worthK
  rw [List.take_succ_eq_append_getElem hk, List.foldl_append]
  rfl
def worthP (held : List Rl) (r : Rl) (side : Nat) : List Bs := (worthK (placesP held side) (wordsP r side)).2
theorem foldK_keys {f : Bs → List Nat} {x : List Nat} : ∀ {l : List Bs} {t : List (List Nat) × List Bs}, x ∈ (l.foldl (addK f) t).1 ↔ x ∈ t.1 ∨ ∃ s ∈ l, f s = x
  | [], t => by simp
  | s :: r, t => by
    rw [List.foldl_cons, foldK_keys]
    show x ∈ f s :: t.1 ∨ _ ↔ _
    rw [List.mem_cons]
    constructor
    · rintro ((rfl | h) | ⟨y, hy, e⟩)
      · exact Or.inr ⟨s, List.mem_cons_self, rfl⟩
      · exact Or.inl h
      · exact Or.inr ⟨y, List.mem_cons_of_mem _ hy, e⟩
    · rintro (h | ⟨y, hy, e⟩)
      · exact Or.inl (Or.inr h)
      · rcases List.mem_cons.1 hy with rfl | hy
        · exact Or.inl (Or.inl e.symm)
        · exact Or.inr ⟨y, hy, e⟩
theorem foldK_words {f : Bs → List Nat} {x : Bs} : ∀ {l : List Bs} {t : List (List Nat) × List Bs}, x ∈ (l.foldl (addK f) t).2 → x ∈ t.2 ∨ x ∈ l
  | [], t, h => Or.inl h
  | s :: r, t, h => by
    rw [List.foldl_cons] at h
    rcases foldK_words h with h | h
    · have h : x ∈ (if f s ∈ t.1 then t.2 else t.2 ++ [s]) := h
      split at h
      · exact Or.inl h
      · rcases List.mem_append.1 h with h | h
        · exact Or.inl h
        · exact Or.inr (List.mem_cons.2 (Or.inl (List.mem_singleton.1 h)))
    · exact Or.inr (List.mem_cons_of_mem _ h)
theorem worth_sub {held : List Rl} {r : Rl} {side : Nat} {x : Bs} (h : x ∈ worthP held r side) : x ∈ wordsP r side := by
  rcases foldK_words h with h | h
  · cases h
  · exact h
theorem foldK_rep {f : Bs → List Nat} : ∀ {l : List Bs} {t : List (List Nat) × List Bs}, (∀ y ∈ t.1, ∃ z ∈ t.2, f z = y) → ∀ y ∈ (l.foldl (addK f) t).1, ∃ z ∈ (l.foldl (addK f) t).2, f z = y
  | [], t, h => h
  | s :: r, t, h => by
    rw [List.foldl_cons]
    refine foldK_rep (fun y hy => ?_)
    have hy : y ∈ f s :: t.1 := hy
    show ∃ z ∈ (if f s ∈ t.1 then t.2 else t.2 ++ [s]), f z = y
    rcases List.mem_cons.1 hy with rfl | hy
    · split
      · rename_i hs
        exact h _ hs
      · exact ⟨s, by simp, rfl⟩
    · obtain ⟨z, hz, e⟩ := h y hy
      split
      · exact ⟨z, hz, e⟩
      · exact ⟨z, List.mem_append_left _ hz, e⟩
theorem worth_rep {held : List Rl} {r : Rl} {side : Nat} {x : Bs} (h : x ∈ wordsP r side) : ∃ z ∈ worthP held r side, placesP held side z = placesP held side x :=
  foldK_rep (t := ([], [])) (fun y hy => by cases hy) _ (foldK_keys.2 (Or.inr ⟨x, h, rfl⟩))
/-- words at the same places are had by the same rules -/
theorem same_has {held : List Rl} {side : Nat} {x z : Bs} (h : placesP held side z = placesP held side x) {r : Rl} (hr : r ∈ held) : hasS r side z = hasS r side x := by
  have key : ∀ y, hasS r side y = true ↔ r ∈ havingP held side y := fun y => ⟨fun g => having_mem.2 ⟨hr, g⟩, fun g => (having_mem.1 g).2⟩
  rw [Bool.eq_iff_iff, key, key]
  unfold havingP
  rw [h]
def gapP (held : List Rl) (r : Rl) : Option (Bs × Bs × Bs × Unit) := g0 held (worthP held r 0) (worthP held r 1) (worthP held r 2)
theorem gap_some {held : List Rl} {r : Rl} {v k n : Bs} {u : Unit} (h : gapP held r = some (v, k, n, u)) : v ∈ wordsP r 0 ∧ k ∈ wordsP r 1 ∧ n ∈ wordsP r 2 ∧ gapB held v k n := by
  obtain ⟨h1, h2, h3, h4⟩ := g0_some h
  exact ⟨worth_sub h1, worth_sub h2, worth_sub h3, h4⟩
theorem gap_none {held : List Rl} {r : Rl} (h : gapP held r = none) {v k n : Bs} (hv : v ∈ wordsP r 0) (hk : k ∈ wordsP r 1) (hn : n ∈ wordsP r 2) : ¬ gapB held v k n := fun hg => by
  obtain ⟨v', h1, e1⟩ := worth_rep (held := held) hv
  obtain ⟨k', h2, e2⟩ := worth_rep (held := held) hk
  obtain ⟨n', h3, e3⟩ := worth_rep (held := held) hn
  refine g0_none h h1 h2 h3 (fun x hx => ?_)
  rw [same_has e1 hx, same_has e2 hx, same_has e3 hx]
  exact hg x hx
/-- what a rule allows, one that covers it allows -/
theorem gap_covers {held : List Rl} {r : Rl} (h : gapP held r = none) {a : Ak} (ha : alB r a = true) : allB held a = true := by
  unfold alB at ha
  rw [Bool.and_eq_true, Bool.and_eq_true] at ha
  obtain ⟨h0, h1, h2⟩ := ha
  have hv : ∃ v ∈ wordsP r 0, v = a.1 ∨ v = [42] := by
    unfold hasB at h0
    rw [Bool.or_eq_true, decide_eq_true_iff, decide_eq_true_iff] at h0
    rcases h0 with h0 | h0
    · exact ⟨_, once_mem.2 h0, Or.inl rfl⟩
    · exact ⟨_, once_mem.2 h0, Or.inr rfl⟩
  have hk : ∃ v ∈ wordsP r 1, v = a.2.1 ∨ v = [42] := by
    unfold hasB at h1
    rw [Bool.or_eq_true, decide_eq_true_iff, decide_eq_true_iff] at h1
    rcases h1 with h1 | h1
    · exact ⟨_, once_mem.2 h1, Or.inl rfl⟩
    · exact ⟨_, once_mem.2 h1, Or.inr rfl⟩
  have hn : ∃ v ∈ wordsP r 2, v = a.2.2.2 ∨ v = [] := by
    unfold nameOkB at h2
    rw [Bool.or_eq_true, Bool.and_eq_true, Bool.not_eq_true', decide_eq_true_iff, decide_eq_true_iff, decide_eq_false_iff_not] at h2
    rcases h2 with h2 | h2
    · exact ⟨[], words2.2 (Or.inl ⟨h2, rfl⟩), Or.inr rfl⟩
    · exact ⟨_, words2.2 (Or.inr ⟨fun e => (by have := List.eq_nil_of_length_eq_zero e; rw [this] at h2; exact absurd h2.2 (by simp)), h2.1, h2.2⟩), Or.inl rfl⟩
  obtain ⟨v, hv, ev⟩ := hv
  obtain ⟨k, hk, ek⟩ := hk
  obtain ⟨n, hn, en⟩ := hn
  have hng := gap_none h hv hk hn
  unfold gapB at hng
  have hex : ∃ x ∈ held, hasS x 0 v = true ∧ hasS x 1 k = true ∧ hasS x 2 n = true := by
    refine Classical.byContradiction fun hno => hng (fun x hx hh => hno ⟨x, hx, hh⟩)
  obtain ⟨x, hx, k0, k1, k2⟩ := hex
  refine allB_true.2 ⟨x, hx, ?_⟩
  rw [has0] at k0
  rw [has1] at k1
  rw [has2] at k2
  unfold alB
  rw [Bool.and_eq_true, Bool.and_eq_true]
  refine ⟨?_, ?_, ?_⟩
  · rcases ev with rfl | rfl
    · exact k0
    · unfold hasB at k0 ⊢
      rw [Bool.or_self] at k0
      rw [k0, Bool.or_true]
  · rcases ek with rfl | rfl
    · exact k1
    · unfold hasB at k1 ⊢
      rw [Bool.or_self] at k1
      rw [k1, Bool.or_true]
  · rcases en with rfl | rfl
    · exact k2
    · unfold nameOkB at k2 ⊢
      simp only [decide_true, Bool.not_true, Bool.false_and, Bool.or_false] at k2
      rw [k2, Bool.true_or]
/-- a word that no rule of held has on a side -/
def freshB (held : List Rl) (side : Nat) (x : Bs) : Prop := ∀ r ∈ held, x ∉ wordsP r side
/-- what is told: what stands for all is a free word -/
def tellW (side : Nat) (x w : Bs) : Bs := if w = signP side then x else w
theorem gap_beyond {held : List Rl} {r : Rl} {v k n : Bs} {u : Unit} (h : gapP held r = some (v, k, n, u)) {x0 x1 x2 : Bs} (f0 : freshB held 0 x0) (f1 : freshB held 1 x1) (f2 : freshB held 2 x2) (hx2 : x2 ≠ []) (sp : Bs) :
    alB r (tellW 0 x0 v, tellW 1 x1 k, sp, tellW 2 x2 n) = true ∧ allB held (tellW 0 x0 v, tellW 1 x1 k, sp, tellW 2 x2 n) = false := by
  obtain ⟨h0, h1, h2, hg⟩ := gap_some h
  constructor
  · unfold alB
    rw [Bool.and_eq_true, Bool.and_eq_true]
    refine ⟨?_, ?_, ?_⟩
    · show hasB r.1 (tellW 0 x0 v) = true
      have h0 : v ∈ r.1 := once_mem.1 h0
      unfold hasB tellW
      split
      · rename_i e
        have e : v = [42] := e
        rw [e] at h0
        rw [decide_eq_true h0, Bool.or_true]
      · rw [decide_eq_true h0, Bool.true_or]
    · show hasB r.2.1 (tellW 1 x1 k) = true
      have h1 : k ∈ r.2.1 := once_mem.1 h1
      unfold hasB tellW
      split
      · rename_i e
        have e : k = [42] := e
        rw [e] at h1
        rw [decide_eq_true h1, Bool.or_true]
      · rw [decide_eq_true h1, Bool.true_or]
    · show nameOkB r.2.2 (tellW 2 x2 n) = true
      unfold nameOkB
      rcases words2.1 h2 with ⟨g, _⟩ | ⟨g, gn, gm⟩
      · rw [decide_eq_true g, Bool.true_or]
      · unfold tellW
        rw [if_neg (by exact gn), decide_eq_false gn, decide_eq_true gm, Bool.not_false, Bool.true_and, Bool.or_true]
  · unfold allB
    rw [List.any_eq_false]
    intro y hy hal
    unfold alB at hal
    rw [Bool.and_eq_true, Bool.and_eq_true] at hal
    obtain ⟨a0, a1, a2⟩ := hal
    refine hg y hy ⟨?_, ?_, ?_⟩
    · rw [has0]
      have a0 : hasB y.1 (tellW 0 x0 v) = true := a0
      unfold tellW at a0
      split at a0
      · rename_i e
        have e : v = [42] := e
        have hf : x0 ∉ y.1 := fun hm => f0 y hy (once_mem.2 hm)
        unfold hasB at a0 ⊢
        rw [decide_eq_false hf, Bool.false_or] at a0
        rw [a0, Bool.or_true]
      · exact a0
    · rw [has1]
      have a1 : hasB y.2.1 (tellW 1 x1 k) = true := a1
      unfold tellW at a1
      split at a1
      · rename_i e
        have e : k = [42] := e
        have hf : x1 ∉ y.2.1 := fun hm => f1 y hy (once_mem.2 hm)
        unfold hasB at a1 ⊢
        rw [decide_eq_false hf, Bool.false_or] at a1
        rw [a1, Bool.or_true]
      · exact a1
    · rw [has2]
      have a2 : nameOkB y.2.2 (tellW 2 x2 n) = true := a2
      unfold tellW at a2
      split at a2
      · rename_i e
        unfold nameOkB at a2 ⊢
        rw [Bool.or_eq_true] at a2
        rcases a2 with a2 | a2
        · rw [a2, Bool.true_or]
        · rw [Bool.and_eq_true, decide_eq_true_iff] at a2
          exact absurd (words2.2 (Or.inr ⟨fun e0 => (by have := List.eq_nil_of_length_eq_zero e0; rw [this] at a2; exact absurd a2.2 (by simp)), hx2, a2.2⟩)) (f2 y hy)
      · exact a2
end Go.Proofs.YtnjjlnhchfoigabDoor
