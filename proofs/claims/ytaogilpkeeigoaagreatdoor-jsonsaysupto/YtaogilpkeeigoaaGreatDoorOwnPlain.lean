/- Bytes that a call has gathered in memory of its own: plain facts on worlds. -/
import Derived.Test.YtaogilpkeeigoaaGreatDoorGPlain
import Derived.Test.YtaogilpkeeigoaaGreatDoorRows
import Derived.Laws.BytesArg
import Derived.Lib.AppendIntMem
import Derived.Lib.OthersKept
namespace Go.Proofs.YtaogilpkeeigoaaGreatDoor
open Go.RowKit
set_option linter.unusedVariables false
set_option linter.unusedSimpArgs false
/-- The slice v owns the bytes l, in blocks from B on. -/
def Own (B : Nat) (w : World) (v : Value) (l : Bs) : Prop := w.ownsRow B 5 1 v l.length (Lib.byteCells l)
theorem Own.nil (B : Nat) (w : World) : Own B w (.slice none 0 0) [] := World.ownsRow_nil _ _ _ _
theorem Own.kept {b B : Nat} {w w' : World} {v : Value} {l : Bs} (h : Own B w v l) (g : G b w w') (hb : b < B) : Own B w' v l := by
  refine World.ownsRow.kept h g ?_
  cases hv : v.ownBlock with
  | none => exact Or.inl rfl
  | some x =>
    have := (World.ownsRow.lt h x hv).1
    exact Or.inr (fun e => by cases e; omega)
theorem Own.below {B : Nat} {w w' : World} {v : Value} {l : Bs} (h : Own B w v l) (g : Below w.heap.size w w') : Own B w' v l := by
  refine World.ownsRow.kept (row := none) h ⟨g.os, g.tape, g.output, g.size, fun k hk _ => g.block k hk⟩ ?_
  cases v.ownBlock with
  | none => exact Or.inl rfl
  | some x => exact Or.inr (fun e => by cases e)
theorem Own.row {B : Nat} {w : World} {v : Value} {l : Bs} (h : Own B w v l) : ∀ k, v.ownBlock = some k → B ≤ k := fun k hk => (World.ownsRow.lt h k hk).1
theorem G.grown {b : Nat} {w0 w w' : World} {row : Option Nat} (h : G b w0 w) (hg : w.grownBy w' row) (hr : ∀ k, row = some k → w0.heap.size ≤ k) : G b w0 w' :=
  ⟨hg.os.trans h.os, hg.tape.trans h.tape, hg.output.trans h.output, Nat.le_trans h.size hg.size, fun k hk hb => (hg.block k (Nat.lt_of_lt_of_le hk h.size) (fun e => by have := hr k e.symm; omega)).trans (h.block k hk hb)⟩
/-- Below block B, and of all blocks that hold no bytes, nothing has turned. -/
structure Fr (B : Nat) (w w' : World) : Prop where
  below : Below B w w'
  others : Lib.OthersKept 5 none w w'
theorem Fr.refl (B : Nat) (w : World) : Fr B w w := ⟨Below.refl _ _, Lib.OthersKept.refl _ _ _⟩
theorem Fr.trans {B : Nat} {a b c : World} (h : Fr B a b) (k : Fr B b c) : Fr B a c := ⟨h.below.trans k.below, h.others.trans k.others⟩
theorem Fr.alloc {B : Nat} {a w : World} (h : Fr B a w) (hB : B ≤ w.heap.size) (o : Obj) : Fr B a (w.alloc o) := ⟨h.below.alloc hB o, h.others.alloc o⟩
theorem Fr.own {B n : Nat} {a w w' : World} {v : Value} {xs : List Value} (h : Fr B a w) (ho : w.ownsRow B 5 1 v n xs) (hB : B ≤ w.heap.size) (hg : w.grownBy w' v.ownBlock) : Fr B a w' :=
  ⟨h.below.grown hg hB (fun k hk => (World.ownsRow.lt ho k hk).1), h.others.grown hg (fun k hk => by
    rcases ho.2 with ⟨rfl, _⟩ | ⟨g, cap, cur, rfl, _, hh, _⟩
    · simp [Value.ownBlock] at hk
    · simp [Value.ownBlock] at hk
      subst hk
      exact ⟨cur, _, hh⟩)⟩
theorem cells_snoc (l : Bs) (c : UInt8) : Lib.byteCells l ++ [.int .u8 c.toNat] = Lib.byteCells (l ++ [c]) := by simp [Lib.byteCells]
theorem strOf_bytes (l : Bs) : strOfNums (l.map fun c => (c.toNat : Int)) = ⟨l.toArray⟩ := by
  have : ((l.map fun c => (c.toNat : Int)).map fun n => UInt8.ofNat n.toNat) = l := by
    rw [List.map_map]
    conv => rhs; rw [← List.map_id l]
    apply List.map_congr_left
    intro c _
    simp
  unfold strOfNums
  rw [this]
theorem info_u8 : (Tryz.prog.info? 5).map (fun i => (i.zero, i.size, i.bytes)) = some (some (.int .u8 0), 1, 1) := by kernel_rfl
theorem conv_own {B : Nat} {w : World} {v : Value} {l : Bs} (h : Own B w v l) : (convert 99 9 v).run Tryz.prog w = .ok (.string ⟨l.toArray⟩) w := by
  rcases h.2 with ⟨rfl, hn⟩ | ⟨g, cap, cur, rfl, hg, hh, _, _, _, htk⟩
  · have : l = [] := List.length_eq_zero_iff.1 hn
    subst this
    exact run_convert_bytes_nil w 99 5 Tryz.underlying99 Tryz.underlying5 0 0 9 Tryz.underlying9
  · have := run_convert_bytes_arg (P := Tryz.prog) w 99 5 Tryz.underlying99 Tryz.underlying5 g 0 l.length cap (l.map fun c => (c.toNat : Int)) (by simp) (by
      intro i hi
      rw [Nat.zero_add, cell_of_row _ _ _ _ _ _ hh]
      have h2 : (cur.toList.take (l.length * 1))[i]? = (Lib.byteCells l)[i]? := by rw [htk]
      rw [List.getElem?_take, if_pos (by omega)] at h2
      rw [Array.getElem?_toList] at h2
      rw [h2]
      simp [Lib.byteCells, hi]) 9 Tryz.underlying9
    have e : strOfNums (l.map fun c => (c.toNat : Int)) = ⟨l.toArray⟩ := strOf_bytes l
    rw [e] at this
    exact this
end Go.Proofs.YtaogilpkeeigoaaGreatDoor
