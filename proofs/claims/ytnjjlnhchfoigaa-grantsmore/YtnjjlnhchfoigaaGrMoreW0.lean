/- The walk of the law GrantsMore over this translation. -/
import Derived.Test.YtnjjlnhchfoigaaGrMay
import Derived.Test.YtnjjlnhchfoigaaGrNone
import Derived.Test.YtnjjlnhchfoigaaGrMoreP
namespace Go.Proofs.Ytnjjlnhchfoigaa
open Go.RowKit
set_option linter.unusedVariables false
set_option linter.unusedSimpArgs false
/-- five boxes: of two, three, six, two and four cells -/
theorem bxs5 {w w1 : World} {a b r0 r1 r2 i0 i1 i2 i3 i4 i5 c d e f g h : Value} {t tr tb s r : TypeId}
    (hh : Below (((((w.alloc (.cells #[a, b] t)).alloc (.cells #[r0, r1, r2] tr)).alloc (.cells #[i0, i1, i2, i3, i4, i5] tb)).alloc (.cells #[c, d] s)).alloc (.cells #[e, f, g, h] r)).heap.size (((((w.alloc (.cells #[a, b] t)).alloc (.cells #[r0, r1, r2] tr)).alloc (.cells #[i0, i1, i2, i3, i4, i5] tb)).alloc (.cells #[c, d] s)).alloc (.cells #[e, f, g, h] r)) w1) :
    (w1.cell? ⟨w.heap.size, 0, none⟩ = some a ∧ w1.cell? ⟨w.heap.size, 1, none⟩ = some b) ∧
    (w1.cell? ⟨w.heap.size + 1, 0, none⟩ = some r0 ∧ w1.cell? ⟨w.heap.size + 1, 1, none⟩ = some r1 ∧ w1.cell? ⟨w.heap.size + 1, 2, none⟩ = some r2) ∧
    (w1.cell? ⟨w.heap.size + 2, 0, none⟩ = some i0 ∧ w1.cell? ⟨w.heap.size + 2, 1, none⟩ = some i1 ∧ w1.cell? ⟨w.heap.size + 2, 2, none⟩ = some i2 ∧ w1.cell? ⟨w.heap.size + 2, 3, none⟩ = some i3 ∧ w1.cell? ⟨w.heap.size + 2, 4, none⟩ = some i4 ∧ w1.cell? ⟨w.heap.size + 2, 5, none⟩ = some i5) ∧
    (w1.cell? ⟨w.heap.size + 3, 0, none⟩ = some c ∧ w1.cell? ⟨w.heap.size + 3, 1, none⟩ = some d) ∧
    w1.cell? ⟨w.heap.size + 4, 0, none⟩ = some e ∧ w1.cell? ⟨w.heap.size + 4, 1, none⟩ = some f ∧ w1.cell? ⟨w.heap.size + 4, 2, none⟩ = some g ∧ w1.cell? ⟨w.heap.size + 4, 3, none⟩ = some h := by
  have hs : ∀ (p : Addr), p.block < w.heap.size + 5 → w1.cell? p = (((((w.alloc (.cells #[a, b] t)).alloc (.cells #[r0, r1, r2] tr)).alloc (.cells #[i0, i1, i2, i3, i4, i5] tb)).alloc (.cells #[c, d] s)).alloc (.cells #[e, f, g, h] r)).cell? p := fun p hp => hh.cell (p := p) (by first | (simp; done) | (simp; omega))
  have k1 : Below (w.heap.size + 1) (w.alloc (.cells #[a, b] t)) w1 := ((((Below.refl _ _).alloc (by simp) _).alloc (by simp) _).alloc (by first | (simp; done) | (simp; omega)) _).alloc (by first | (simp; done) | (simp; omega)) _ |>.trans (hh.mono (by simp))
  have k2 : Below (w.heap.size + 2) ((w.alloc (.cells #[a, b] t)).alloc (.cells #[r0, r1, r2] tr)) w1 := (((Below.refl _ _).alloc (by simp) _).alloc (by simp) _).alloc (by first | (simp; done) | (simp; omega)) _ |>.trans (hh.mono (by simp))
  have k3 : Below (w.heap.size + 3) (((w.alloc (.cells #[a, b] t)).alloc (.cells #[r0, r1, r2] tr)).alloc (.cells #[i0, i1, i2, i3, i4, i5] tb)) w1 := ((Below.refl _ _).alloc (by simp) _).alloc (by simp) _ |>.trans (hh.mono (by simp))
  have k4 : Below (w.heap.size + 4) ((((w.alloc (.cells #[a, b] t)).alloc (.cells #[r0, r1, r2] tr)).alloc (.cells #[i0, i1, i2, i3, i4, i5] tb)).alloc (.cells #[c, d] s)) w1 := (Below.refl _ _).alloc (by simp) _ |>.trans (hh.mono (by simp))
  have s1 : (w.alloc (.cells #[a, b] t)).heap.size = w.heap.size + 1 := by simp
  have s2 : ((w.alloc (.cells #[a, b] t)).alloc (.cells #[r0, r1, r2] tr)).heap.size = w.heap.size + 2 := by simp
  have s3 : (((w.alloc (.cells #[a, b] t)).alloc (.cells #[r0, r1, r2] tr)).alloc (.cells #[i0, i1, i2, i3, i4, i5] tb)).heap.size = w.heap.size + 3 := by simp
  have s4 : ((((w.alloc (.cells #[a, b] t)).alloc (.cells #[r0, r1, r2] tr)).alloc (.cells #[i0, i1, i2, i3, i4, i5] tb)).alloc (.cells #[c, d] s)).heap.size = w.heap.size + 4 := by simp
  refine ⟨⟨?_, ?_⟩, ⟨?_, ?_, ?_⟩, ⟨?_, ?_, ?_, ?_, ?_, ?_⟩, ⟨?_, ?_⟩, ?_, ?_, ?_, ?_⟩
  · rw [k1.cell (p := ⟨w.heap.size, 0, none⟩) (by simp), World.cell?_alloc_at _ _ _ _ rfl]; rfl
  · rw [k1.cell (p := ⟨w.heap.size, 1, none⟩) (by simp), World.cell?_alloc_at _ _ _ _ rfl]; rfl
  · rw [k2.cell (p := ⟨w.heap.size + 1, 0, none⟩) (by simp), World.cell?_alloc_at _ _ _ _ s1.symm]; rfl
  · rw [k2.cell (p := ⟨w.heap.size + 1, 1, none⟩) (by simp), World.cell?_alloc_at _ _ _ _ s1.symm]; rfl
  · rw [k2.cell (p := ⟨w.heap.size + 1, 2, none⟩) (by simp), World.cell?_alloc_at _ _ _ _ s1.symm]; rfl
  · rw [k3.cell (p := ⟨w.heap.size + 2, 0, none⟩) (by simp), World.cell?_alloc_at _ _ _ _ s2.symm]; rfl
  · rw [k3.cell (p := ⟨w.heap.size + 2, 1, none⟩) (by simp), World.cell?_alloc_at _ _ _ _ s2.symm]; rfl
  · rw [k3.cell (p := ⟨w.heap.size + 2, 2, none⟩) (by simp), World.cell?_alloc_at _ _ _ _ s2.symm]; rfl
  · rw [k3.cell (p := ⟨w.heap.size + 2, 3, none⟩) (by simp), World.cell?_alloc_at _ _ _ _ s2.symm]; rfl
  · rw [k3.cell (p := ⟨w.heap.size + 2, 4, none⟩) (by simp), World.cell?_alloc_at _ _ _ _ s2.symm]; rfl
  · rw [k3.cell (p := ⟨w.heap.size + 2, 5, none⟩) (by simp), World.cell?_alloc_at _ _ _ _ s2.symm]; rfl
  · rw [k4.cell (p := ⟨w.heap.size + 3, 0, none⟩) (by simp), World.cell?_alloc_at _ _ _ _ s3.symm]; rfl
  · rw [k4.cell (p := ⟨w.heap.size + 3, 1, none⟩) (by simp), World.cell?_alloc_at _ _ _ _ s3.symm]; rfl
  · rw [hh.cell (p := ⟨w.heap.size + 4, 0, none⟩) (by simp), World.cell?_alloc_at _ _ _ _ s4.symm]; rfl
  · rw [hh.cell (p := ⟨w.heap.size + 4, 1, none⟩) (by simp), World.cell?_alloc_at _ _ _ _ s4.symm]; rfl
  · rw [hh.cell (p := ⟨w.heap.size + 4, 2, none⟩) (by simp), World.cell?_alloc_at _ _ _ _ s4.symm]; rfl
  · rw [hh.cell (p := ⟨w.heap.size + 4, 3, none⟩) (by simp), World.cell?_alloc_at _ _ _ _ s4.symm]; rfl
end Go.Proofs.Ytnjjlnhchfoigaa
