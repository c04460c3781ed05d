/- Rows of texts of one's own; sets of texts in maps of one's own. -/
import Derived.Test.YtnjjlnhchfoigabDoorGrFlat
import Derived.Maps.OwnSet
import Derived.Maps.AppendAt
import Derived.Maps.GroupsBeside
namespace Go.Proofs.YtnjjlnhchfoigabDoor
open Go.RowKit Go.Maps
set_option linter.unusedVariables false
set_option linter.unusedSimpArgs false
/-- a list of texts of one's own, from block B on -/
def OwnN (B : Nat) (w : World) (v : Value) (l : List Bs) : Prop := w.ownsRow B 9 1 v l.length (l.map fun s => .string (Ba s))
theorem OwnN.low {B B' : Nat} {w : World} {v : Value} {l : List Bs} (h : OwnN B w v l) (hb : B' ≤ B) : OwnN B' w v l := own_low h hb
theorem OwnN.below {B : Nat} {w w' : World} {v : Value} {l : List Bs} (h : OwnN B w v l) (g : Below w.heap.size w w') : OwnN B w' v l := own_belowG h g
theorem OwnN.strs {B : Nat} {w : World} {v : Value} {l : List Bs} (h : OwnN B w v l) : Strs w v l := by
  rcases h.2 with ⟨rfl, h0⟩ | ⟨g, cap, cur, rfl, hB, hh, hc, hm, hs, ht⟩
  · exact Or.inl ⟨List.length_eq_zero_iff.1 h0, none, 0, rfl⟩
  · refine Or.inr ⟨g, 0, cap, rfl, hc, hm, (Array.getElem?_eq_some_iff.1 hh).1, fun i s hi => ?_⟩
    have hil : i < l.length := (List.getElem?_eq_some_iff.1 hi).1
    have := World.ownsRow.cellAt (w := w) (g := g) (cap := cap) (n := l.length) (xs := l.map fun s => .string (Ba s)) (size := 1) (e := 9) (base := B) h i (by omega)
    rw [Nat.zero_add, this, List.getElem?_map, hi]
    rfl
theorem owns_some {B : Nat} {w : World} {g n c : Nat} {l : List Bs} (h : OwnN B w (.slice (some ⟨g, 0, none⟩) n c) l) : B ≤ g ∧ g < w.heap.size := World.ownsRow.lt h g rfl
theorem take_map (l : List Bs) (k : Nat) (h : k < l.length) : ((l.take (k + 1)).map fun s => Value.string (Ba s)) = ((l.take k).map fun s => Value.string (Ba s)) ++ [.string (Ba l[k])] := by
  rw [List.take_succ_eq_append_getElem h, List.map_append]
  rfl
theorem OwnN.kept {B : Nat} {w w' : World} {v : Value} {l : List Bs} {row : Option Nat} (h : OwnN B w v l) (hg : w.grownBy w' row) (hne : v.ownBlock = none ∨ v.ownBlock ≠ row) : OwnN B w' v l := World.ownsRow.kept h hg hne
/-- nothing of what was there has changed -/
theorem grown_none {w w' : World} (h : Below w.heap.size w w') : w.grownBy w' none := ⟨h.os, h.tape, h.output, h.size, fun k hk _ => h.block k hk⟩
theorem below_grown {w w' : World} {row : Option Nat} (h : w.grownBy w' row) : Below 0 w w' := ⟨h.os, h.tape, h.output, h.size, fun k hk => by omega⟩
theorem lawS : Keyed Tryd.prog 9 := string_keyed Tryd.underlying9
theorem zeroU (w : World) : (zeroValue 88).run Tryd.prog w = .ok (.agg #[]) w := by kernel_rfl
theorem keyS (s : Bs) (hs : s.length ≤ maxLen) : keyOf Tryd.prog 9 (.string (Ba s)) = some (.string s) := by
  rw [WideMaps.keyOf_string_mk Tryd.underlying9 (by rw [ba_size]; exact hs), ba_data]
/-- the block of a map: those texts are in it -/
def SetIs (w : World) (b n : Nat) (L : List Bs) : Prop := ∃ D : DataW Unit, w.ownsMap Tryd.prog 9 unitElem b n D ∧ ∀ s : Bs, Maps.has D (.string s) = decide (s ∈ L)
theorem SetIs.made (w : World) : SetIs (w.alloc (.map #[] 0)) w.heap.size 0 [] := ⟨_, World.ownsMap_made _ _ _ _, fun s => by simp [Maps.has]⟩
theorem SetIs.kept {w w' : World} {b n : Nat} {L : List Bs} {row : Option Nat} (h : SetIs w b n L) (hg : w.grownBy w' row) (hne : some b ≠ row) : SetIs w' b n L := by
  obtain ⟨D, h1, h2⟩ := h
  exact ⟨D, h1.kept hg hne, h2⟩
theorem SetIs.below {w w' : World} {b n : Nat} {L : List Bs} (h : SetIs w b n L) (hg : Below w.heap.size w w') : SetIs w' b n L := h.kept (grown_none hg) (by simp)
theorem SetIs.mono {w : World} {b n m : Nat} {L : List Bs} (h : SetIs w b n L) (hg : n ≤ m) : SetIs w b m L := by
  obtain ⟨D, h1, h2⟩ := h
  exact ⟨D, h1.mono hg, h2⟩
theorem SetIs.lt {w : World} {b n : Nat} {L : List Bs} (h : SetIs w b n L) : b < w.heap.size := by
  obtain ⟨D, h1, h2⟩ := h
  exact h1.lt
theorem has_put {D : DataW Unit} {L : List Bs} {s : Bs} (hm : IsMap D) (h : ∀ s : Bs, Maps.has D (.string s) = decide (s ∈ L)) (x : DataW Unit) : ∀ t : Bs, Maps.has (D.put (.string s) x) (.string t) = decide (t ∈ L ++ [s]) := fun t => by
  by_cases e : t = s
  · subst e
    rw [has_put_same (k := .string t) hm (show WideAt.IsKeyLit (Lit.string t) from trivial)]
    simp
  · rw [has_put_other (by simpa using e), h t]
    simp [e]
/-- a row of cells lies in another block than a map -/
theorem row_map_ne {w : World} {B : Nat} {e : TypeId} {st : Nat} {v : Value} {n : Nat} {xs : List Value} (h : w.ownsRow B e st v n xs) {b m : Nat} {R : Value → Option (DataW Unit × List MemPlace)} {D : DataW Unit} {k : TypeId} (g : w.ownsMap Tryd.prog k R b m D) : v.ownBlock ≠ some b := by
  obtain ⟨es, clock, hb, _⟩ := g
  rcases h.2 with ⟨rfl, _⟩ | ⟨g', cap, c2, rfl, _, hg, _⟩
  · intro h; cases h
  · intro h
    injection h with h
    have h : g' = b := h
    subst h
    rw [hg] at hb
    injection hb with hb
    cases hb
end Go.Proofs.YtnjjlnhchfoigabDoor
