/- What the reader's memory holds, and that other memory stays: plain facts on worlds. -/
import Derived.Test.YtaogilpkeeigoaaGreatDoorGPlain
import Derived.WalkKit
import Derived.Deep.QuietTactic
namespace Go.Proofs.YtaogilpkeeigoaaGreatDoor
open Go.RowKit
set_option linter.unusedVariables false
set_option linter.unusedSimpArgs false
/-- The reader in block b: its text, the place of the byte that comes next, how many values have begun. -/
def Rd (b : Nat) (t : ByteArray) (p k : Nat) (w : World) : Prop := w.heap[b]? = some (.cells #[.string t, .int .i64 p, .int .i64 k] 75 (0, 0))
section
variable {b : Nat} {t : ByteArray} {p k : Nat} {w w' : World}
theorem Rd.text (h : Rd b t p k w) : w.cell? ⟨b, 0, none⟩ = some (.string t) := by rw [cell_of_row _ _ _ _ _ _ h]; rfl
theorem Rd.place (h : Rd b t p k w) : w.cell? ⟨b, 1, none⟩ = some (.int .i64 p) := by rw [cell_of_row _ _ _ _ _ _ h]; rfl
theorem Rd.many (h : Rd b t p k w) : w.cell? ⟨b, 2, none⟩ = some (.int .i64 k) := by rw [cell_of_row _ _ _ _ _ _ h]; rfl
theorem Rd.free (h : Rd b t p k w) (j : Nat) : w.frozen? ⟨b, j, none⟩ = false := frozen_of_row _ _ _ _ _ h
theorem Rd.drew (h : Rd b t p k w) : Rd b t p k w.drew := h
theorem Rd.drewN (h : Rd b t p k w) (n : Nat) : Rd b t p k (w.drewN n) := h
theorem Rd.lt (h : Rd b t p k w) : b < w.heap.size := lt_of_block h
theorem Rd.move (h : Rd b t p k w) (q : Nat) : Rd b t q k (w.setCell ⟨b, 1, none⟩ (.int .i64 q)) := by
  have := heap_setCell_same w b 1 _ _ (.int .i64 q) h
  exact this
theorem Rd.count (h : Rd b t p k w) (q : Nat) : Rd b t p q (w.setCell ⟨b, 2, none⟩ (.int .i64 q)) := by
  have := heap_setCell_same w b 2 _ _ (.int .i64 q) h
  exact this
theorem Rd.alloc (h : Rd b t p k w) (o : Obj) : Rd b t p k (w.alloc o) := by
  have := Below.heap_alloc w o b h.lt
  exact this.trans h
/-- what a change of other blocks leaves -/
theorem Rd.kept {row : Option Nat} (h : Rd b t p k w) (hg : w.grownBy w' row) (hne : some b ≠ row) : Rd b t p k w' := (hg.block b h.lt hne).trans h
end
/-- the place behind the blanks -/
def skipAt (t : ByteArray) (p : Nat) : Nat := t.size - (skip (rest t p)).length
theorem skip_len : ∀ r : Bs, (skip r).length ≤ r.length
  | [] => Nat.le_refl _
  | c :: r => by
    rw [skip]
    split
    · exact Nat.le_trans (skip_len r) (by simp)
    · exact Nat.le_refl _
theorem skip_drop : ∀ r : Bs, skip r = r.drop (r.length - (skip r).length)
  | [] => rfl
  | c :: r => by
    rw [skip]
    split
    · have := skip_len r
      have e : (c :: r).length - (skip r).length = (r.length - (skip r).length) + 1 := by simp; omega
      rw [e, List.drop_succ_cons]
      exact skip_drop r
    · simp
theorem rest_skip (t : ByteArray) (p : Nat) (hp : p ≤ t.size) : rest t (skipAt t p) = skip (rest t p) := by
  have h1 := skip_drop (rest t p)
  have h2 := skip_len (rest t p)
  rw [rest_len] at h1 h2
  conv => rhs; rw [h1]
  unfold rest skipAt
  rw [List.drop_drop]
  congr 1
  unfold rest at h2 ⊢
  omega
theorem skipAt_le (t : ByteArray) (p : Nat) : skipAt t p ≤ t.size := Nat.sub_le _ _
theorem skipAt_ge (t : ByteArray) (p : Nat) (hp : p ≤ t.size) : p ≤ skipAt t p := by
  have h2 := skip_len (rest t p)
  rw [rest_len] at h2
  unfold skipAt
  omega
theorem skipAt_step {t : ByteArray} {p : Nat} (h : blank (hd (rest t p)) = true) : skipAt t p = skipAt t (p + 1) := by
  have hlt : p < t.size := lt_of_hd (fun e => by rw [e] at h; exact absurd h (by decide))
  unfold skipAt
  rw [rest_cons hlt, skip]
  rw [hd_lt hlt] at h
  rw [if_pos h]
theorem skipAt_stop {t : ByteArray} {p : Nat} (hp : p ≤ t.size) (h : blank (hd (rest t p)) = false) : skipAt t p = p := by
  unfold skipAt
  rcases Nat.lt_or_ge p t.size with h' | h'
  · rw [hd_lt h'] at h
    have e : skip (rest t p) = rest t p := by rw [rest_cons h', skip, if_neg (by simp [h])]
    rw [e, rest_len]
    omega
  · rw [rest_nil h']
    simp [skip]
    omega
end Go.Proofs.YtaogilpkeeigoaaGreatDoor
