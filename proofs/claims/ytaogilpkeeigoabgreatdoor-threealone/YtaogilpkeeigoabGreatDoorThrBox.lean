/- Three values in a box: plain facts on memory. -/
import Derived.Test.YtaogilpkeeigoabGreatDoorThrA
namespace Go.Proofs.YtaogilpkeeigoabGreatDoor
open Go.RowKit
set_option linter.unusedVariables false
set_option linter.unusedSimpArgs false
def Box3 (w : World) (g : Nat) (a b c : Value) : Prop := w.heap[g]? = some (.cells #[a, b, c] 88 (0, 0))
section
variable {w w' : World} {g : Nat} {a b c : Value}
theorem Box3.lt (h : Box3 w g a b c) : g < w.heap.size := lt_of_block h
theorem Box3.free (h : Box3 w g a b c) (o : Nat) : w.frozen? ⟨g, o, none⟩ = false := frozen_of_row _ _ _ _ _ h
theorem Box3.c0 (h : Box3 w g a b c) : w.cell? ⟨g, 0, none⟩ = some a := by rw [cell_of_row _ _ _ _ _ _ h]; rfl
theorem Box3.c1 (h : Box3 w g a b c) : w.cell? ⟨g, 1, none⟩ = some b := by rw [cell_of_row _ _ _ _ _ _ h]; rfl
theorem Box3.c2 (h : Box3 w g a b c) : w.cell? ⟨g, 2, none⟩ = some c := by rw [cell_of_row _ _ _ _ _ _ h]; rfl
theorem Box3.below (h : Box3 w g a b c) (e : Below w.heap.size w w') : Box3 w' g a b c := (e.block g h.lt).trans h
theorem Box3.alloc (h : Box3 w g a b c) (o : Obj) : Box3 (w.alloc o) g a b c := (Below.heap_alloc w o g h.lt).trans h
theorem Box3.grown {row : Option Nat} (h : Box3 w g a b c) (e : w.grownBy w' row) (hne : some g ≠ row) : Box3 w' g a b c := (e.block g h.lt hne).trans h
theorem Box3.drew (h : Box3 w g a b c) : Box3 w.drew g a b c := h
theorem box3_new (w : World) (a b c : Value) : Box3 (w.alloc (.cells #[a, b, c] 88)) w.heap.size a b c := heap_alloc_new w _
end
def put3 (w : World) (g : Nat) (a b c : Value) : World := ((w.setCell ⟨g, 0, none⟩ a).setCell ⟨g, 1, none⟩ b).setCell ⟨g, 2, none⟩ c
theorem put3_box {w : World} {g : Nat} {x y z : Value} (hb : Box3 w g x y z) (a b c : Value) : Box3 (put3 w g a b c) g a b c := by
  unfold put3
  have e0 := heap_setCell_same w g 0 _ _ a hb
  have e1 := heap_setCell_same _ g 1 _ _ b e0
  exact heap_setCell_same _ g 2 _ _ c e1
theorem grownBy_set_trans {w a : World} {g o : Nat} {v : Value} (h : w.grownBy a (some g)) : w.grownBy (a.setCell ⟨g, o, none⟩ v) (some g) := by
  have k := grownBy_setCell a g o v
  exact ⟨k.os.trans h.os, k.tape.trans h.tape, k.output.trans h.output, Nat.le_trans h.size k.size, fun c hc hne => (k.block c (Nat.lt_of_lt_of_le hc h.size) hne).trans (h.block c hc hne)⟩
theorem put3_grown (w : World) (g : Nat) (a b c : Value) : w.grownBy (put3 w g a b c) (some g) := by
  unfold put3
  exact grownBy_set_trans (grownBy_set_trans (grownBy_setCell w g 0 a))
theorem put3_below {w0 w : World} {B g : Nat} (h : Below B w0 w) (hB : B ≤ g) (hw : B ≤ w.heap.size) (a b c : Value) : Below B w0 (put3 w g a b c) :=
  h.grown (put3_grown w g a b c) hw (fun k e => by cases e; exact hB)
def IsV (u : Value) : Prop := u = .nilIface ∨ ∃ T x, u = .iface T x
theorem OptV.isV {av : Nat → Prop} {w : World} {n : Nat} {o : Option (J n)} {v : Value} (h : OptV av w n o v) : IsV v := by
  rcases h with ⟨_, h⟩ | ⟨_, T, x, _, h, _⟩
  · exact Or.inl h
  · exact Or.inr ⟨T, x, h⟩
end Go.Proofs.YtaogilpkeeigoabGreatDoor
