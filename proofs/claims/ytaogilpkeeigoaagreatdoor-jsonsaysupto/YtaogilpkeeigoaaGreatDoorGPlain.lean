/- That other memory stays: plain facts on worlds. -/
import Derived.Test.YtaogilpkeeigoaaGreatDoorRestPlain
import Derived.WalkKit
import Derived.Deep.QuietTactic
namespace Go.Proofs.YtaogilpkeeigoaaGreatDoor
open Go.RowKit
set_option linter.unusedVariables false
set_option linter.unusedSimpArgs false
/-- Of what was there all blocks but b are as they were. -/
def G (b : Nat) (w w' : World) : Prop := w.grownBy w' (some b)
theorem G.refl (b : Nat) (w : World) : G b w w := ⟨rfl, rfl, rfl, Nat.le_refl _, fun _ _ _ => rfl⟩
theorem G.trans {b : Nat} {x y z : World} (h : G b x y) (g : G b y z) : G b x z :=
  ⟨g.os.trans h.os, g.tape.trans h.tape, g.output.trans h.output, Nat.le_trans h.size g.size, fun k hk hb => (g.block k (Nat.lt_of_lt_of_le hk h.size) hb).trans (h.block k hk hb)⟩
theorem G.drew {b : Nat} {x y : World} (h : G b x y) : G b x y.drew := ⟨h.os, h.tape, h.output, h.size, h.block⟩
theorem G.drewN {b : Nat} {x y : World} (h : G b x y) (n : Nat) : G b x (y.drewN n) := ⟨h.os, h.tape, h.output, h.size, h.block⟩
theorem drewN_two (w : World) (m n : Nat) : (w.drewN m).drewN n = w.drewN (m + n) := by simp [World.drewN, Nat.add_assoc]
theorem G.setCell {b : Nat} {x y : World} (h : G b x y) (o : Nat) (v : Value) : G b x (y.setCell ⟨b, o, none⟩ v) :=
  h.trans ⟨rfl, rfl, rfl, by simp [World.setCell], fun k _ hb => heap_setCell_other _ _ _ _ (fun e => hb (by rw [e]))⟩
theorem G.alloc {b : Nat} {x y : World} (h : G b x y) (o : Obj) : G b x (y.alloc o) := h.trans (World.grownBy_alloc y o (some b))
theorem below_of_new {w w' : World} {o : Obj} (g : G w.heap.size (w.alloc o) w') : Below w.heap.size w w' :=
  ⟨g.os, g.tape, g.output, by have := g.size; simp at this; omega, fun k hk => (g.block k (by simp; omega) (fun e => by cases e; omega)).trans (Below.heap_alloc w o k hk)⟩
theorem below_of_G {b : Nat} {w w' : World} (g : G b w w') (hb : b < w.heap.size) : Below b w w' :=
  ⟨g.os, g.tape, g.output, g.size, fun k hk => g.block k (by omega) (fun e => by cases e; omega)⟩
end Go.Proofs.YtaogilpkeeigoaaGreatDoor
