/- A row of texts in a block of its own, written in place. -/
import Derived.Test.YtnjjlnhchfoigabDoorGrOnce
import Derived.Lib.SliceRun
import Derived.Shelf.Abstract
namespace Go.Proofs.YtnjjlnhchfoigabDoor
open Go.RowKit Go.Maps
set_option linter.unusedVariables false
set_option linter.unusedSimpArgs false
def RowT (w : World) (g cap : Nat) (m : List Bs) : Prop :=
  ∃ cur, w.heap[g]? = some (.cells cur 9 (0, 0)) ∧ cap ≤ maxLen ∧ cur.size = cap ∧ m.length ≤ cap ∧ ∀ (i : Nat) (s : Bs), m[i]? = some s → cur[i]? = some (.string (Ba s))
theorem RowT.lt {w : World} {g cap : Nat} {m : List Bs} (h : RowT w g cap m) : g < w.heap.size := by
  obtain ⟨cur, h0, _⟩ := h
  exact (Array.getElem?_eq_some_iff.1 h0).1
theorem RowT.le {w : World} {g cap : Nat} {m : List Bs} (h : RowT w g cap m) : m.length ≤ cap := by
  obtain ⟨cur, h0, _, _, h1, _⟩ := h
  exact h1
theorem RowT.cell {w : World} {g cap : Nat} {m : List Bs} (h : RowT w g cap m) {i : Nat} {s : Bs} (hi : m[i]? = some s) : w.cell? ⟨g, i, none⟩ = some (.string (Ba s)) := by
  obtain ⟨cur, h0, _, _, _, h2⟩ := h
  have := h2 i s hi
  simp [World.cell?, h0, this]
theorem RowT.frozen {w : World} {g cap i : Nat} {m : List Bs} (h : RowT w g cap m) : w.frozen? ⟨g, i, none⟩ = false := by
  obtain ⟨cur, h0, _⟩ := h
  simp [World.frozen?, h0]
theorem RowT.kept {w w' : World} {g cap : Nat} {m : List Bs} {row : Option Nat} (h : RowT w g cap m) (hg : w.grownBy w' row) (hne : some g ≠ row) : RowT w' g cap m := by
  have hlt := h.lt
  obtain ⟨cur, h0, h1⟩ := h
  exact ⟨cur, (hg.block g hlt hne).trans h0, h1⟩
theorem RowT.below {w w' : World} {g cap : Nat} {m : List Bs} (h : RowT w g cap m) (hg : Below w.heap.size w w') : RowT w' g cap m := h.kept (grown_none hg) (by simp)
theorem RowT.set {w : World} {g cap i : Nat} {m : List Bs} (h : RowT w g cap m) (hi : i < m.length) (s : Bs) : RowT (w.setCell ⟨g, i, none⟩ (.string (Ba s))) g cap (m.set i s) := by
  have hlt := h.lt
  obtain ⟨cur, h0, h1, h2, h3, h4⟩ := h
  refine ⟨cur.setIfInBounds i (.string (Ba s)), ?_, h1, by simpa using h2, by simpa using h3, fun j t hj => ?_⟩
  · exact heap_setCell_same w g i _ _ _ h0
  · by_cases e : i = j
    · subst e
      rw [List.getElem?_set_self hi] at hj
      injection hj with hj
      subst hj
      rw [Array.getElem?_setIfInBounds_self_of_lt (by omega)]
    · rw [List.getElem?_set_ne e] at hj
      rw [Array.getElem?_setIfInBounds_ne e]
      exact h4 j t hj
theorem RowT.cut {w : World} {g cap : Nat} {m : List Bs} (h : RowT w g cap m) (k : Nat) : RowT w g cap (m.take k) := by
  obtain ⟨cur, h0, h1, h2, h3, h4⟩ := h
  refine ⟨cur, h0, h1, h2, by rw [List.length_take]; omega, fun j t hj => h4 j t ?_⟩
  rw [List.getElem?_take] at hj
  split at hj
  · exact hj
  · cases hj
theorem RowT.clear {w : World} {g cap i : Nat} {m : List Bs} (h : RowT w g cap m) (hi : i ≤ m.length) (vs : List Value) (hv : i + vs.length ≤ cap) : RowT (w.setCells g i vs) g cap (m.take i) := by
  induction vs generalizing w i m with
  | nil => exact h.cut i
  | cons v r ih =>
    obtain ⟨cur, h0, h1, h2, h3, h4⟩ := h.cut i
    have hl : (m.take i).length = i := by rw [List.length_take]; omega
    have hv' : i + r.length + 1 ≤ cap := by rw [List.length_cons] at hv; omega
    have h5 : RowT (w.setCell ⟨g, i, none⟩ v) g cap (m.take i ++ [[]]) ∨ True := Or.inr trivial
    have key : RowT (w.setCell ⟨g, i, none⟩ v) g cap (m.take i) := by
      refine ⟨cur.setIfInBounds i v, heap_setCell_same w g i _ _ _ h0, h1, by simpa using h2, h3, fun j t hj => ?_⟩
      have hji : j < i := by have := (List.getElem?_eq_some_iff.1 hj).1; omega
      rw [Array.getElem?_setIfInBounds_ne (by omega)]
      exact h4 j t hj
    have gen : ∀ (vs : List Value) (o : Nat) (w : World), RowT w g cap (m.take i) → i ≤ o → RowT (w.setCells g o vs) g cap (m.take i) := by
      intro vs
      induction vs with
      | nil => intro o w h _; exact h
      | cons u r ih =>
        intro o w h ho
        obtain ⟨cur, h0, h1, h2, h3, h4⟩ := h
        refine ih (o + 1) _ ⟨cur.setIfInBounds o u, heap_setCell_same w g o _ _ _ h0, h1, by simpa using h2, h3, fun j t hj => ?_⟩ (by omega)
        have hji : j < i := by have := (List.getElem?_eq_some_iff.1 hj).1; omega
        rw [Array.getElem?_setIfInBounds_ne (by omega)]
        exact h4 j t hj
    exact gen r (i + 1) _ key (by omega)
theorem RowT.own {w : World} {B g cap : Nat} {m : List Bs} (h : RowT w g cap m) (hB : B ≤ g) : OwnN B w (.slice (some ⟨g, 0, none⟩) m.length cap) m := by
  obtain ⟨cur, h0, h1, h2, h3, h4⟩ := h
  refine ⟨by simp, Or.inr ⟨g, cap, cur, rfl, hB, h0, h3, h1, by omega, ?_⟩⟩
  rw [Nat.mul_one]
  apply List.ext_getElem?
  intro i
  rw [List.getElem?_take, List.getElem?_map]
  by_cases hi : i < m.length
  · rw [if_pos hi, List.getElem?_eq_getElem hi, Array.getElem?_toList]
    exact h4 i _ (List.getElem?_eq_getElem hi)
  · rw [if_neg hi, List.getElem?_eq_none (by omega)]
    rfl
theorem OwnN.row {w : World} {B : Nat} {v : Value} {m : List Bs} (h : OwnN B w v m) (hn : v ≠ .slice none 0 0) : ∃ g cap, v = .slice (some ⟨g, 0, none⟩) m.length cap ∧ B ≤ g ∧ RowT w g cap m := by
  rcases h.2 with ⟨rfl, _⟩ | ⟨g, cap, cur, rfl, hB, h0, h1, h2, h3, h4⟩
  · exact absurd rfl hn
  · refine ⟨g, cap, rfl, hB, cur, h0, h2, by omega, h1, fun i s hi => ?_⟩
    have hil := (List.getElem?_eq_some_iff.1 hi).1
    have e : (cur.toList.take (m.length * 1))[i]? = (m.map fun s => Value.string (Ba s))[i]? := by rw [h4]
    rw [Nat.mul_one, List.getElem?_take, if_pos hil, Array.getElem?_toList, List.getElem?_map, hi] at e
    exact e
theorem grown_set1 {w : World} {b i : Nat} {u : Value} : w.grownBy (w.setCell ⟨b, i, none⟩ u) (some b) :=
  have hb : Below 0 w (w.setCell ⟨b, i, none⟩ u) := (Below.refl 0 w).setCell (Nat.zero_le _) u
  ⟨hb.os, hb.tape, hb.output, hb.size, fun k hk hne => by
    have h : k ≠ b := fun e => hne (by rw [e])
    rw [Below.heap_setCell _ _ _ _ (by exact h)]⟩
theorem grown_sets {b : Nat} : ∀ (vs : List Value) (o : Nat) (w : World), w.grownBy (w.setCells b o vs) (some b)
  | [], _, w => ⟨rfl, rfl, rfl, Nat.le_refl _, fun _ _ _ => rfl⟩
  | v :: r, o, w => (grown_set1 (i := o) (u := v)).trans (grown_sets r (o + 1) _)
/-- what is kept of the first k -/
def keptK (l : List Bs) (d : Nat → Bool) (k : Nat) : List Bs := (List.range k).filterMap fun j => if d j then none else l[j]?
theorem keptK_succ (l : List Bs) (d : Nat → Bool) {k : Nat} (hk : k < l.length) : keptK l d (k + 1) = keptK l d k ++ (if d k then [] else [l[k]]) := by
  unfold keptK
  rw [List.range_succ, List.filterMap_append]
  congr 1
  rw [List.filterMap_cons, List.filterMap_nil]
  cases d k with
  | true => rfl
  | false => simp [List.getElem?_eq_getElem hk]
theorem keptK_all (l : List Bs) (d : Nat → Bool) : ∀ (k : Nat), k ≤ l.length → (∀ j, j < k → d j = false) → keptK l d k = l.take k
  | 0, _, _ => by simp [keptK]
  | k + 1, hk, h => by
    rw [keptK_succ l d (by omega), keptK_all l d k (by omega) (fun j hj => h j (by omega)), h k (by omega), List.take_succ_eq_append_getElem (by omega)]
    rfl
theorem keptK_len (l : List Bs) (d : Nat → Bool) (k : Nat) : (keptK l d k).length ≤ k := by
  have := List.length_filterMap_le (fun j => if d j then none else l[j]?) (List.range k)
  simpa [keptK] using this
end Go.Proofs.YtnjjlnhchfoigabDoor
