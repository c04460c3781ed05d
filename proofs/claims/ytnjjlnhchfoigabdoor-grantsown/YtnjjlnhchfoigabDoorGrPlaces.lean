/- Places of words in a map of one's own: for each word a row of numbers. -/
import Derived.Test.YtnjjlnhchfoigabDoorGrWords
namespace Go.Proofs.YtnjjlnhchfoigabDoor
open Go.RowKit Go.Maps
open Go.ChangeShapes (lits)
set_option linter.unusedVariables false
set_option linter.unusedSimpArgs false
/-- a rule that isn't too long -/
def SmR (r : Rl) : Prop := FitR r ∧ r.1.length ≤ 1048576 ∧ r.2.1.length ≤ 1048576 ∧ r.2.2.length ≤ 1048576
theorem words_small {r : Rl} (h : SmR r) (side : Nat) : (wordsP r side).length ≤ 1048576 := by
  obtain ⟨_, h0, h1, h2⟩ := h
  unfold wordsP
  have g0 := once_len r.1
  have g1 := once_len r.2.1
  have g2 := once_len r.2.2
  split
  · omega
  · split
    · omega
    · split
      · simp
      · have := List.length_filter_le (fun s => !emptyB s) (onceP r.2.2)
        omega
theorem words_fit {r : Rl} (h : SmR r) (side : Nat) : FitS (wordsP r side) := by
  obtain ⟨⟨h0, h1, h2⟩, _⟩ := h
  unfold wordsP
  split
  · exact fun s hs => h0 s (once_mem.1 hs)
  · split
    · exact fun s hs => h1 s (once_mem.1 hs)
    · split
      · intro s hs
        rw [List.mem_singleton] at hs
        subst hs
        exact Nat.zero_le _
      · exact fun s hs => h2 s (once_mem.1 (List.mem_filter.1 hs).1)
def intsN (l : List Nat) : List Int := l.map fun (n : Nat) => (n : Int)
theorem intsN_len (l : List Nat) : (intsN l).length = l.length := by simp [intsN]
theorem intsN_add (l : List Nat) (n : Nat) : intsN (l ++ [n]) = intsN l ++ [(n : Int)] := by simp [intsN]
theorem lits_inj : ∀ {a b : List Int}, lits (H := Unit) .i64 a = lits .i64 b → a = b
  | [], [], _ => rfl
  | [], _ :: _, h => by simp [lits] at h
  | _ :: _, [], h => by simp [lits] at h
  | x :: a, y :: b, h => by
    have h1 : x = y ∧ lits (H := Unit) .i64 a = lits .i64 b := by simpa [lits] using h
    rw [h1.1, lits_inj h1.2]
/-- what a map tells for a word: these numbers -/
def Nd (l : List Nat) (d : DataW Unit) : Prop := (d = .nil ∧ l = []) ∨ d = .slice (lits .i64 (intsN l)) []
theorem Nd.ints {w : World} {B : Nat} {v : Value} {zs : List Int} {l : List Nat} (h : Nd l (rowDatum .i64 v zs)) (ho : w.ownsInts B 3 .i64 v zs) : zs = intsN l := by
  rcases ho.datum (H := Unit) with ⟨e, e2⟩ | e
  · rw [e] at h
    rcases h with ⟨_, h⟩ | h
    · rw [h, e2]; rfl
    · cases h
  · rw [e] at h
    rcases h with ⟨h, _⟩ | h
    · cases h
    · injection h with h
      exact lits_inj h
theorem Nd.of {w : World} {B : Nat} {v : Value} {zs : List Int} {l : List Nat} (ho : w.ownsInts B 3 .i64 v zs) (h : zs = intsN l) : Nd l (rowDatum .i64 v zs) := by
  rcases ho.datum (H := Unit) with ⟨e, e2⟩ | e
  · refine Or.inl ⟨e, ?_⟩
    rw [e2] at h
    cases l with
    | nil => rfl
    | cons x r => simp [intsN] at h
  · exact Or.inr (by rw [e, h])
theorem row_block {w : World} {B : Nat} {e : TypeId} {st : Nat} {v : Value} {n : Nat} {xs : List Value} (h : w.ownsRow B e st v n xs) {g : Nat} (hg : v.ownBlock = some g) : ∃ cur, w.heap[g]? = some (.cells cur e (0, 0)) := by
  rcases h.2 with ⟨rfl, _⟩ | ⟨g', cap, c2, rfl, _, hb, _⟩
  · cases hg
  · injection hg with hg
    have hg : g' = g := hg
    subst hg
    exact ⟨_, hb⟩
/-- rows of cells of two types lie apart -/
theorem rows_ne {w : World} {B B' : Nat} {e e' : TypeId} {st st' : Nat} {v v' : Value} {n n' : Nat} {xs xs' : List Value} (h : w.ownsRow B e st v n xs) (h' : w.ownsRow B' e' st' v' n' xs') (he : e ≠ e') : v.ownBlock = none ∨ v.ownBlock ≠ v'.ownBlock := by
  cases hg : v.ownBlock with
  | none => exact Or.inl rfl
  | some g =>
    refine Or.inr fun hne => ?_
    obtain ⟨c1, h1⟩ := row_block h hg
    obtain ⟨c2, h2⟩ := row_block h' hne.symm
    rw [h1] at h2
    injection h2 with h2
    injection h2 with _ h2
    exact he h2
theorem RowT.ne {w : World} {g cap : Nat} {m : List Bs} (h : RowT w g cap m) {B : Nat} {e : TypeId} {st : Nat} {v : Value} {n : Nat} {xs : List Value} (h' : w.ownsRow B e st v n xs) (he : e ≠ 9) : some g ≠ v.ownBlock := by
  obtain ⟨cur, h0, _⟩ := h
  intro hne
  obtain ⟨c2, h2⟩ := row_block h' hne.symm
  rw [h0] at h2
  injection h2 with h2
  injection h2 with _ h2
  exact he h2.symm
/-- the block of a map: for each word these numbers -/
abbrev Grp (w : World) (base b n : Nat) (D : DataW Unit) : Prop := w.ownsGroups Tryd.prog 9 base 3 .i64 b n D
def PlIs (w : World) (base b n : Nat) (f : Bs → List Nat) : Prop := ∃ D : DataW Unit, Grp w base b n D ∧ ∀ s : Bs, Nd (f s) (D.atKey (.string s) .nil)
theorem Grp.map {w : World} {base b n : Nat} {D : DataW Unit} (h : Grp w base b n D) : ∃ es clock, w.heap[b]? = some (.map es clock) := by
  obtain ⟨es, clock, hb, _⟩ := h
  exact ⟨es, clock, hb⟩
theorem Grp.isMap {w : World} {base b n : Nat} {D : DataW Unit} (h : Grp w base b n D) : IsMap D := by
  obtain ⟨es, clock, _, _, _, h, _⟩ := h
  exact ⟨_, h⟩
theorem Grp.lt {w : World} {base b n : Nat} {D : DataW Unit} (h : Grp w base b n D) : b < w.heap.size := by
  obtain ⟨es, clock, hb⟩ := h.map
  exact (Array.getElem?_eq_some_iff.1 hb).1
theorem Grp.row_ne {w : World} {base b n : Nat} {D : DataW Unit} (h : Grp w base b n D) {B : Nat} {e : TypeId} {st : Nat} {v : Value} {m : Nat} {xs : List Value} (g : w.ownsRow B e st v m xs) : v.ownBlock ≠ some b := by
  obtain ⟨es, clock, hb⟩ := h.map
  intro hg
  obtain ⟨c, hc⟩ := row_block g hg
  rw [hc] at hb
  injection hb with hb
  cases hb
theorem Grp.rowT_ne {w : World} {base b n : Nat} {D : DataW Unit} (h : Grp w base b n D) {g cap : Nat} {m : List Bs} (hr : RowT w g cap m) : some g ≠ some b := by
  obtain ⟨es, clock, hb⟩ := h.map
  obtain ⟨cur, h0, _⟩ := hr
  intro hg
  injection hg with hg
  subst hg
  rw [h0] at hb
  injection hb with hb
  cases hb
theorem Grp.kept {w w' : World} {base b n : Nat} {D : DataW Unit} {row : Option Nat} (h : Grp w base b n D) (hg : w.grownBy w' row) (hb : some b ≠ row)
    (hr : ∀ g, row = some g → ∀ cur, w.heap[g]? ≠ some (.cells cur 3 (0, 0))) : Grp w' base b n D := by
  refine World.ownsGroups.kept h hg hb (fun es clock hes x hx => ?_)
  obtain ⟨es', clock', hb', F, _⟩ := h
  obtain ⟨rfl, rfl⟩ : es' = es ∧ clock' = clock := by rw [hb'] at hes; simpa using hes
  obtain ⟨y, hy⟩ := F.reads x hx
  obtain ⟨z, hz, _⟩ := Go.WideElems.rd_val hy
  obtain ⟨zs, ho, _⟩ := rowElem_inv hz
  cases hxb : x.val.ownBlock with
  | none => exact Or.inl rfl
  | some g =>
    refine Or.inr fun e => ?_
    obtain ⟨cur, hc⟩ := row_block ho.1 hxb
    exact hr g e.symm cur hc
theorem Grp.below {w w' : World} {base b n : Nat} {D : DataW Unit} (h : Grp w base b n D) (hg : Below w.heap.size w w') : Grp w' base b n D := h.kept (grown_none hg) (by simp) (fun g hg => by cases hg)
theorem PlIs.below {w w' : World} {base b n : Nat} {f : Bs → List Nat} (h : PlIs w base b n f) (hg : Below w.heap.size w w') : PlIs w' base b n f := by
  obtain ⟨D, h1, h2⟩ := h
  exact ⟨D, h1.below hg, h2⟩
theorem Grp.grown {w w' : World} {base b n : Nat} {D : DataW Unit} {B : Nat} {e : TypeId} {st : Nat} {v : Value} {m : Nat} {xs : List Value} (h : Grp w base b n D) (hr : w.ownsRow B e st v m xs) (he : e ≠ 3) (hg : w.grownBy w' v.ownBlock) : Grp w' base b n D :=
  h.kept hg (fun e => h.row_ne hr e.symm) (fun g hgb cur hc => by
    obtain ⟨c2, h2⟩ := row_block hr hgb
    rw [hc] at h2
    injection h2 with h2
    injection h2 with _ h2
    exact he h2.symm)
theorem PlIs.grown {w w' : World} {base b n : Nat} {f : Bs → List Nat} {B : Nat} {e : TypeId} {st : Nat} {v : Value} {m : Nat} {xs : List Value} (h : PlIs w base b n f) (hr : w.ownsRow B e st v m xs) (he : e ≠ 3) (hg : w.grownBy w' v.ownBlock) : PlIs w' base b n f := by
  obtain ⟨D, h1, h2⟩ := h
  exact ⟨D, h1.grown hr he hg, h2⟩
theorem PlIs.made (w : World) : PlIs (w.alloc (.map #[] 0)) (w.heap.size + 1) w.heap.size 0 (fun _ => []) := ⟨_, World.ownsGroups_made _ _ _ _ _, fun s => Or.inl ⟨by simp [DataW.atKey], rfl⟩⟩
theorem Grp.mono {w : World} {base b n m : Nat} {D : DataW Unit} (h : Grp w base b n D) (hm : n ≤ m) : Grp w base b m D := by
  obtain ⟨es, clock, hb, F, hs, h1, h2, h3, h4⟩ := h
  exact ⟨es, clock, hb, F, Nat.le_trans hs hm, h1, h2, fun x hx zs ho => Nat.le_trans (h3 x hx zs ho) hm, h4⟩
theorem nd_put {D : DataW Unit} (hm : IsMap D) {f : Bs → List Nat} (h : ∀ s : Bs, Nd (f s) (D.atKey (.string s) .nil)) (s : Bs) {l : List Nat} {d : DataW Unit} (hd : Nd l d) {f' : Bs → List Nat} (h1 : f' s = l) (h2 : ∀ t, t ≠ s → f' t = f t) :
    ∀ t : Bs, Nd (f' t) ((D.put (.string s) d).atKey (.string t) .nil) := fun t => by
  by_cases e : t = s
  · subst e
    rw [atKey_put_same (k := .string t) hm (show WideAt.IsKeyLit (Lit.string t) from trivial), h1]
    exact hd
  · rw [atKey_put_other (by simpa using e), h2 t e]
    exact h t
/-- the places behind the first words of a rule -/
def placesJ (held : List Rl) (side k : Nat) (T : List Bs) (j : Nat) (t : Bs) : List Nat := placesK held side k t ++ (if t ∈ T.take j then [k] else [])
theorem placesJ_zero (held : List Rl) (side k : Nat) (T : List Bs) : placesJ held side k T 0 = placesK held side k := by
  funext t
  simp [placesJ]
theorem placesJ_here {held : List Rl} {side k : Nat} {T : List Bs} {j : Nat} (hj : j < T.length) (hn : T.Nodup) : placesJ held side k T (j + 1) T[j] = placesJ held side k T j T[j] ++ [k] := by
  have h1 : T[j] ∈ T.take (j + 1) := by rw [List.take_succ_eq_append_getElem hj]; exact List.mem_append_right _ (List.mem_singleton.2 rfl)
  have h0 : T[j] ∉ T.take j := fun hm => by
    rw [List.mem_take_iff_getElem] at hm
    obtain ⟨i, hi, e⟩ := hm
    exact List.pairwise_iff_getElem.1 hn i j (by omega) hj (by omega) e
  unfold placesJ
  rw [if_pos h1, if_neg h0, List.append_nil]
theorem placesJ_other {held : List Rl} {side k : Nat} {T : List Bs} {j : Nat} (hj : j < T.length) {t : Bs} (ht : t ≠ T[j]) : placesJ held side k T (j + 1) t = placesJ held side k T j t := by
  unfold placesJ
  have : (t ∈ T.take (j + 1)) ↔ t ∈ T.take j := by
    rw [List.take_succ_eq_append_getElem hj, List.mem_append, List.mem_singleton]
    exact ⟨fun h => h.resolve_right ht, Or.inl⟩
  simp only [this]
theorem placesJ_len (held : List Rl) (side k : Nat) (T : List Bs) (j : Nat) (t : Bs) : (placesJ held side k T j t).length ≤ k + 1 := by
  have := places_len held side k t
  unfold placesJ
  rw [List.length_append]
  split <;> simp <;> omega
theorem placesJ_all {held : List Rl} {side k : Nat} (hk : k < held.length) (h : signP side ∉ wordsP held[k] side) : placesJ held side k (wordsP held[k] side) (wordsP held[k] side).length = placesK held side (k + 1) := by
  funext t
  unfold placesJ
  rw [places_succ, at_here hk, List.take_of_length_le (Nat.le_refl _)]
  unfold wholeB
  rw [decide_eq_false h]
  simp only [Bool.not_false, Bool.true_and, decide_eq_true_eq]
theorem places_whole {held : List Rl} {side k : Nat} (hk : k < held.length) (h : signP side ∈ wordsP held[k] side) : placesK held side (k + 1) = placesK held side k := by
  funext t
  rw [places_succ, at_here hk]
  unfold wholeB
  rw [decide_eq_true h]
  simp
theorem what_in {held : List Rl} {side k : Nat} (hk : k < held.length) (h : signP side ∈ wordsP held[k] side) : whatP (held.take (k + 1)) side = whatP (held.take k) side ++ [held[k]] := by
  rw [what_succ held side hk]
  unfold wholeB
  rw [decide_eq_true h]
  rfl
theorem what_out {held : List Rl} {side k : Nat} (hk : k < held.length) (h : signP side ∉ wordsP held[k] side) : whatP (held.take (k + 1)) side = whatP (held.take k) side := by
  rw [what_succ held side hk]
  unfold wholeB
  rw [decide_eq_false h]
  simp
theorem zeroI (w : World) : (zeroValue 97).run Tryd.prog w = .ok (.slice none 0 0) w := by kernel_rfl
theorem info_int : (Tryd.prog.info? 3).map (fun i => (i.zero, i.size, i.bytes)) = some (some (.int .i64 0), 1, 8) := by kernel_rfl
theorem cells3_new {w : World} {a b c : Value} {t : TypeId} : ∀ (j : Nat) (u : Value), [a, b, c][j]? = some u → (w.alloc (.cells #[a, b, c] t)).cell? ((⟨w.heap.size, 0, none⟩ : Addr).add j) = some u := fun j u h => by
  rw [plain_add, Nat.zero_add]
  rw [World.cell?_alloc_at _ _ _ _ rfl]
  simpa using h
end Go.Proofs.YtnjjlnhchfoigabDoor
