/- Boxes of six cells: plain facts on worlds. -/
import Derived.Test.YtaogilpkeeigoaaGreatDoorRfRepr
import Derived.Test.YtaogilpkeeigoaaGreatDoorRfPlain
import Derived.Handy
namespace Go.Proofs.YtaogilpkeeigoaaGreatDoor
open Go.RowKit
set_option linter.unusedVariables false
set_option linter.unusedSimpArgs false
/-- block g is a box of the reference's value -/
def Box (w : World) (g : Nat) (h : Hd) (nm l : Value) : Prop := w.heap[g]? = some (.cells #[.int .i64 h.k, .bool h.b, .int .i64 h.i, .string ⟨h.s.toArray⟩, nm, l] 25 (0, 0))
theorem Box.lt {w : World} {g : Nat} {h : Hd} {nm l : Value} (hb : Box w g h nm l) : g < w.heap.size := lt_of_block hb
theorem Box.free {w : World} {g : Nat} {h : Hd} {nm l : Value} (hb : Box w g h nm l) (o : Nat) : w.frozen? ⟨g, o, none⟩ = false := frozen_of_row _ _ _ _ _ hb
theorem Box.c0 {w : World} {g : Nat} {h : Hd} {nm l : Value} (hb : Box w g h nm l) : w.cell? ⟨g, 0, none⟩ = some (.int .i64 h.k) := by rw [cell_of_row _ _ _ _ _ _ hb]; rfl
theorem Box.c1 {w : World} {g : Nat} {h : Hd} {nm l : Value} (hb : Box w g h nm l) : w.cell? ⟨g, 1, none⟩ = some (.bool h.b) := by rw [cell_of_row _ _ _ _ _ _ hb]; rfl
theorem Box.c2 {w : World} {g : Nat} {h : Hd} {nm l : Value} (hb : Box w g h nm l) : w.cell? ⟨g, 2, none⟩ = some (.int .i64 h.i) := by rw [cell_of_row _ _ _ _ _ _ hb]; rfl
theorem Box.c3 {w : World} {g : Nat} {h : Hd} {nm l : Value} (hb : Box w g h nm l) : w.cell? ⟨g, 3, none⟩ = some (.string ⟨h.s.toArray⟩) := by rw [cell_of_row _ _ _ _ _ _ hb]; rfl
theorem Box.c4 {w : World} {g : Nat} {h : Hd} {nm l : Value} (hb : Box w g h nm l) : w.cell? ⟨g, 4, none⟩ = some nm := by rw [cell_of_row _ _ _ _ _ _ hb]; rfl
theorem Box.c5 {w : World} {g : Nat} {h : Hd} {nm l : Value} (hb : Box w g h nm l) : w.cell? ⟨g, 5, none⟩ = some l := by rw [cell_of_row _ _ _ _ _ _ hb]; rfl
theorem Box.keep {w w' : World} {g : Nat} {h : Hd} {nm l : Value} (hb : Box w g h nm l) (e : w'.heap[g]? = w.heap[g]?) : Box w' g h nm l := e.trans hb
theorem Box.below {w w' : World} {g : Nat} {h : Hd} {nm l : Value} (hb : Box w g h nm l) (e : Below w.heap.size w w') : Box w' g h nm l := (e.block g hb.lt).trans hb
theorem Box.grown {w w' : World} {g : Nat} {h : Hd} {nm l : Value} {row : Option Nat} (hb : Box w g h nm l) (e : w.grownBy w' row) (hne : some g ≠ row) : Box w' g h nm l := (e.block g hb.lt hne).trans hb
theorem Box.drewN {w : World} {g : Nat} {h : Hd} {nm l : Value} (hb : Box w g h nm l) (n : Nat) : Box (w.drewN n) g h nm l := hb
theorem Box.drew {w : World} {g : Nat} {h : Hd} {nm l : Value} (hb : Box w g h nm l) : Box w.drew g h nm l := hb
theorem box_new (w : World) (h : Hd) (nm l : Value) : Box (w.alloc (.cells #[.int .i64 h.k, .bool h.b, .int .i64 h.i, .string ⟨h.s.toArray⟩, nm, l] 25)) w.heap.size h nm l := heap_alloc_new w _
/-- six cells are written -/
def put6 (w : World) (g : Nat) (a b c d e f : Value) : World := (((((w.setCell ⟨g, 0, none⟩ a).setCell ⟨g, 1, none⟩ b).setCell ⟨g, 2, none⟩ c).setCell ⟨g, 3, none⟩ d).setCell ⟨g, 4, none⟩ e).setCell ⟨g, 5, none⟩ f
theorem put6_box {w : World} {g : Nat} {h : Hd} {nm l : Value} (hb : Box w g h nm l) (h' : Hd) (nm' l' : Value) : Box (put6 w g (.int .i64 h'.k) (.bool h'.b) (.int .i64 h'.i) (.string ⟨h'.s.toArray⟩) nm' l') g h' nm' l' := by
  unfold put6
  have e0 := heap_setCell_same w g 0 _ _ (.int .i64 h'.k) hb
  have e1 := heap_setCell_same _ g 1 _ _ (.bool h'.b) e0
  have e2 := heap_setCell_same _ g 2 _ _ (.int .i64 h'.i) e1
  have e3 := heap_setCell_same _ g 3 _ _ (.string ⟨h'.s.toArray⟩) e2
  have e4 := heap_setCell_same _ g 4 _ _ nm' e3
  exact heap_setCell_same _ g 5 _ _ l' e4
theorem grownBy_set_trans {w a : World} {g o : Nat} {v : Value} (h : w.grownBy a (some g)) : w.grownBy (a.setCell ⟨g, o, none⟩ v) (some g) := by
  have k := grownBy_setCell a g o v
  exact ⟨k.os.trans h.os, k.tape.trans h.tape, k.output.trans h.output, Nat.le_trans h.size k.size, fun c hc hne => (k.block c (Nat.lt_of_lt_of_le hc h.size) hne).trans (h.block c hc hne)⟩
theorem put6_grown (w : World) (g : Nat) (a b c d e f : Value) : w.grownBy (put6 w g a b c d e f) (some g) := by
  unfold put6
  exact grownBy_set_trans (grownBy_set_trans (grownBy_set_trans (grownBy_set_trans (grownBy_set_trans (grownBy_setCell w g 0 a)))))
theorem put6_below {w0 w : World} {B g : Nat} (h : Below B w0 w) (hB : B ≤ g) (hw : B ≤ w.heap.size) (a b c d e f : Value) : Below B w0 (put6 w g a b c d e f) :=
  h.grown (put6_grown w g a b c d e f) hw (fun k e => by cases e; exact hB)
end Go.Proofs.YtaogilpkeeigoaaGreatDoor
