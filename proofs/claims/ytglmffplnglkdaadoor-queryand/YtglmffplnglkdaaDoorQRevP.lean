/- Contract over this translation: slices.Reverse at parts of selectors of one's own. -/
import Derived.Test.YtglmffplnglkdaaDoorQOwn
namespace Go.Proofs.YtglmffplnglkdaaDoor
open Go.RowKit
set_option linter.unusedVariables false
set_option linter.unusedSimpArgs false
/-- parts in memory that may be written: block g, from its beginning on -/
def RowAt (w : World) (g : Nat) (L : List (Rq × Value)) : Prop := g < w.heap.size ∧ ∀ (i : Nat) (p : Rq × Value), L[i]? = some p → (w.cell? ⟨g, i * 3, none⟩ = some (.string (Ba p.1.1)) ∧ w.cell? ⟨g, i * 3 + 1, none⟩ = some (.int .i64 p.1.2.1) ∧ w.cell? ⟨g, i * 3 + 2, none⟩ = some p.2) ∧ w.frozen? ⟨g, i * 3, none⟩ = false ∧ w.frozen? ⟨g, i * 3 + 1, none⟩ = false ∧ w.frozen? ⟨g, i * 3 + 2, none⟩ = false
def set3 (w : World) (g o : Nat) (p : Rq × Value) : World := ((w.setCell ⟨g, o, none⟩ (.string (Ba p.1.1))).setCell ⟨g, o + 1, none⟩ (.int .i64 p.1.2.1)).setCell ⟨g, o + 2, none⟩ p.2
theorem addr_ne {g a b : Nat} (h : a ≠ b) : (⟨g, a, none⟩ : Addr) ≠ ⟨g, b, none⟩ := fun e => h (by injection e)
theorem sc_other (w : World) (a b : Addr) (v : Value) (h : a ≠ b) : (w.setCell a v).cell? b = w.cell? b := by
  first | exact World.cell?_setCell_other _ _ _ _ h | exact World.cell?_setCell_other _ _ _ h | exact World.cell?_setCell_other _ _ h
theorem sc_same (w : World) (a : Addr) (v u : Value) (h : w.cell? a = some u) : (w.setCell a v).cell? a = some v := World.cell?_setCell_same' w a v (by rw [h]; rfl)
theorem set3_other {w : World} {g o x : Nat} {p : Rq × Value} (h0 : x ≠ o) (h1 : x ≠ o + 1) (h2 : x ≠ o + 2) : (set3 w g o p).cell? ⟨g, x, none⟩ = w.cell? ⟨g, x, none⟩ := by
  unfold set3
  rw [sc_other _ _ _ _ (addr_ne (Ne.symm h2)), sc_other _ _ _ _ (addr_ne (Ne.symm h1)), sc_other _ _ _ _ (addr_ne (Ne.symm h0))]
theorem set3_same {w : World} {g o : Nat} {p : Rq × Value} {u0 u1 u2 : Value} (h0 : w.cell? ⟨g, o, none⟩ = some u0) (h1 : w.cell? ⟨g, o + 1, none⟩ = some u1) (h2 : w.cell? ⟨g, o + 2, none⟩ = some u2) :
    (set3 w g o p).cell? ⟨g, o, none⟩ = some (.string (Ba p.1.1)) ∧ (set3 w g o p).cell? ⟨g, o + 1, none⟩ = some (.int .i64 p.1.2.1) ∧ (set3 w g o p).cell? ⟨g, o + 2, none⟩ = some p.2 := by
  have n01 : o ≠ o + 1 := by omega
  have n02 : o ≠ o + 2 := by omega
  have n12 : o + 1 ≠ o + 2 := by omega
  unfold set3
  refine ⟨?_, ?_, ?_⟩
  · rw [sc_other _ _ _ _ (addr_ne (Ne.symm n02)), sc_other _ _ _ _ (addr_ne (Ne.symm n01)), sc_same _ _ _ _ h0]
  · rw [sc_other _ _ _ _ (addr_ne (Ne.symm n12))]
    refine sc_same _ _ _ u1 ?_
    rw [sc_other _ _ _ _ (addr_ne n01)]
    exact h1
  · refine sc_same _ _ _ u2 ?_
    rw [sc_other _ _ _ _ (addr_ne n12), sc_other _ _ _ _ (addr_ne n02)]
    exact h2
theorem set3_frozen {w : World} {g o : Nat} {p : Rq × Value} {a : Addr} : (set3 w g o p).frozen? a = w.frozen? a := by simp [set3]
theorem set3_size {w : World} {g o : Nat} {p : Rq × Value} : (set3 w g o p).heap.size = w.heap.size := by simp [set3, World.setCell]
theorem set3_below {w0 w : World} {B g o : Nat} {p : Rq × Value} (h : Below B w0 w) (hB : B ≤ g) : Below B w0 (set3 w g o p) :=
  ((h.setCell (p := ⟨g, o, none⟩) hB _).setCell (p := ⟨g, o + 1, none⟩) hB _).setCell (p := ⟨g, o + 2, none⟩) hB _
theorem rowAt_set {w : World} {g i : Nat} {M : List (Rq × Value)} {p : Rq × Value} (h : RowAt w g M) (hi : i < M.length) : RowAt (set3 w g (i * 3) p) g (M.set i p) := by
  obtain ⟨hg, hc⟩ := h
  refine ⟨by rw [set3_size]; exact hg, fun k q hk => ?_⟩
  rw [set3_frozen, set3_frozen, set3_frozen]
  by_cases e : k = i
  · subst e
    rw [List.getElem?_set_self hi] at hk
    cases hk
    obtain ⟨⟨c0, c1, c2⟩, f⟩ := hc k _ (List.getElem?_eq_getElem hi)
    exact ⟨set3_same c0 c1 c2, f⟩
  · rw [List.getElem?_set_ne (Ne.symm e)] at hk
    obtain ⟨⟨c0, c1, c2⟩, f⟩ := hc k q hk
    rw [set3_other (by omega) (by omega) (by omega), set3_other (by omega) (by omega) (by omega), set3_other (by omega) (by omega) (by omega)]
    exact ⟨⟨c0, c1, c2⟩, f⟩
/-- .. after k exchanges -/
def RevK (L M : List (Rq × Value)) (k : Nat) : Prop := M.length = L.length ∧ ∀ i, i < L.length → M[i]? = if i < k ∨ L.length - k ≤ i then L[L.length - 1 - i]? else L[i]?
theorem revK_step {L M : List (Rq × Value)} {k j : Nat} (h : RevK L M k) (hj : j = L.length - 1 - k) (hkj : k < j) {p q : Rq × Value} (hp : M[k]? = some p) (hq : M[j]? = some q) : RevK L ((M.set k q).set j p) (k + 1) := by
  obtain ⟨hl, hm⟩ := h
  have hjl : j < L.length := by omega
  refine ⟨by simp [hl], fun i hi => ?_⟩
  by_cases ej : i = j
  · subst ej
    rw [List.getElem?_set_self (by simp; omega), if_pos (by omega)]
    have := hm k (by omega)
    rw [if_neg (by omega), hp] at this
    rw [this]
    congr 1
    omega
  · rw [List.getElem?_set_ne (Ne.symm ej)]
    by_cases ek : i = k
    · subst ek
      rw [List.getElem?_set_self (by omega), if_pos (by omega)]
      have := hm j hjl
      rw [if_neg (by omega), hq] at this
      rw [this, hj]
    · rw [List.getElem?_set_ne (Ne.symm ek), hm i hi]
      by_cases c : i < k ∨ L.length - k ≤ i
      · rw [if_pos c, if_pos (by omega)]
      · rw [if_neg c, if_neg (by omega)]
theorem revK_end {L M : List (Rq × Value)} {k : Nat} (h : RevK L M k) (hk : ¬ (k : Int) < (L.length : Int) - 1 - k) : M = L.reverse := by
  obtain ⟨hl, hm⟩ := h
  apply List.ext_getElem?
  intro i
  by_cases hi : i < L.length
  · rw [hm i hi, List.getElem?_reverse hi]
    by_cases c : i < k ∨ L.length - k ≤ i
    · rw [if_pos c]
    · rw [if_neg c]
      congr 1
      omega
  · rw [List.getElem?_eq_none (by omega), List.getElem?_eq_none (by simp; omega)]
end Go.Proofs.YtglmffplnglkdaaDoor
