/- Contracts over this translation: the names of two objects, sorted, each once. -/
import Derived.Test.YtaogilpkeeigoabGreatDoorThrBox
import Derived.Test.YtaogilpkeeigoabGreatDoorConcatO
import Derived.Test.YtaogilpkeeigoabGreatDoorShelfSort
import Derived.Deep.RegionWith
import Derived.RegionTactic
import Derived.Lib.RowBridge
namespace Go.Proofs.YtaogilpkeeigoabGreatDoor
open Go.RowKit Go.Sort
set_option linter.unusedVariables false
set_option linter.unusedSimpArgs false
theorem row_world {w w' : World} {k blk off : Nat} {d0 d : Array (List UInt8)} {os : Array Obj} (h0 : Holds encStr w blk off d0) (hs : d.size = d0.size) (hb : blk < w.heap.size) (e : w' = grow (putRow encStr (Sort.ahead w k) blk off d) os) :
    w.grownBy w' (some blk) ∧ Holds encStr w' blk off d := by
  subst e
  refine ⟨⟨rfl, rfl, rfl, by simp [grow, putRow, mapBlock, Sort.ahead], fun c hc hne => ?_⟩, ?_⟩
  · have hne' : ¬ blk = c := fun e => hne (by rw [e])
    rw [heap_grow_old _ _ (by rw [size_putRow]; exact hc)]
    simp only [putRow, mapBlock, Sort.ahead, Array.getElem?_modify, if_neg hne']
  · have h1 : Holds encStr (putRow encStr (Sort.ahead w k) blk off d) blk off d := holds_putRow encStr _ blk off d0 d (holds_ahead encStr w k blk off d0 h0) hs
    intro j hj
    obtain ⟨a, b⟩ := h1 j hj
    have hlt : blk < (putRow encStr (Sort.ahead w k) blk off d).heap.size := by rw [size_putRow]; exact hb
    refine ⟨by rw [cell?_grow _ _ _ hlt]; exact a, ?_⟩
    rw [World.frozen?_of_block (w := putRow encStr (Sort.ahead w k) blk off d) (a := ⟨blk, off + j, none⟩) (heap_grow_old _ _ hlt)]
    exact b
/-- a list of texts of one's own, from block B on -/
def OwnN (B : Nat) (w : World) (v : Value) (l : List Bs) : Prop := w.ownsRow B 9 1 v l.length (l.map fun s => .string ⟨s.toArray⟩)
theorem ownN_snoc {B : Nat} {w : World} {v : Value} {l : List Bs} {x : Bs} (h : w.ownsRow B 9 1 v (l.length + 1) ((l.map fun s => .string ⟨s.toArray⟩) ++ [.string ⟨x.toArray⟩])) : OwnN B w v (l ++ [x]) := by
  unfold OwnN
  rw [List.length_append, List.map_append]
  exact h
/-- a list of texts that may be sorted -/
def HoldsL (B : Nat) (w : World) (v : Value) (L : List Bs) : Prop := ∃ p cap, v = .slice p L.length cap ∧ L.length ≤ cap ∧ cap ≤ maxLen ∧ (L = [] ∨ ∃ g, p = some ⟨g, 0, none⟩ ∧ B ≤ g ∧ g < w.heap.size ∧ Holds encStr w g 0 L.toArray)
theorem OwnN.holds {B : Nat} {w : World} {v : Value} {L : List Bs} (h : OwnN B w v L) : HoldsL B w v L := by
  obtain ⟨hl, ⟨rfl, h0⟩ | ⟨g, cap, cur, rfl, hB, hg, hc, hm, hs, ht⟩⟩ := h
  · have : L = [] := List.eq_nil_of_length_eq_zero h0
    subst this
    exact ⟨none, 0, rfl, Nat.le_refl _, Nat.zero_le _, Or.inl rfl⟩
  · refine ⟨_, cap, rfl, hc, hm, Or.inr ⟨g, rfl, hB, lt_of_block hg, fun j hj => ⟨?_, frozen_of_row _ _ _ _ _ hg⟩⟩⟩
    have hj' : j < L.length := by simpa using hj
    rw [Nat.zero_add, cell_of_row _ _ _ _ _ _ hg]
    have h1 : (cur.toList.take (L.length * 1))[j]? = some (.string ⟨L[j].toArray⟩) := by rw [ht]; simp [hj']
    rw [List.getElem?_take, if_pos (by omega), Array.getElem?_toList] at h1
    rw [h1]
    simp [encStr, hj']
theorem HoldsL.at {B : Nat} {w : World} {v : Value} {L : List Bs} (h : HoldsL B w v L) : ∃ p cap, v = .slice p L.length cap ∧ ∀ (i : Nat) (s : Bs), L[i]? = some s → ∃ g, p = some ⟨g, 0, none⟩ ∧ B ≤ g ∧ g < w.heap.size ∧ w.cell? ⟨g, i, none⟩ = some (.string ⟨s.toArray⟩) := by
  obtain ⟨p, cap, rfl, _, _, rfl | ⟨g, rfl, hB, hg, hH⟩⟩ := h
  · exact ⟨p, cap, rfl, fun i s hi => by simp at hi⟩
  · refine ⟨_, cap, rfl, fun i s hi => ⟨g, rfl, hB, hg, ?_⟩⟩
    obtain ⟨hlt, he⟩ := List.getElem?_eq_some_iff.1 hi
    have := (hH i (by simpa using hlt)).1
    rw [Nat.zero_add] at this
    rw [this]
    simp [encStr, hlt, he]
theorem sortN_any {B : Nat} {w : World} {v : Value} {L : List Bs} (h : HoldsL B w v L) (hB : B ≤ w.heap.size) (hL : L.length ≤ 100000) : Calls Tryz.prog 31 #[v] w fun e w' => e = .returned (.tuple #[]) ∧ HoldsL B w' v (sortB L) ∧ Below B w w' := by
  obtain ⟨p, cap, rfl, hc, hm, h⟩ := h
  have hsl : (sortB L).length = L.length := by unfold sortB; simp
  rcases h with rfl | ⟨g, rfl, hBg, hg, hH⟩
  · refine (Tryz.slices_Sort_string_none p cap w).mono ?_
    rintro e w' ⟨rfl, rfl⟩
    have e0 : sortB ([] : List Bs) = [] := by simp [sortB]
    exact ⟨rfl, ⟨p, cap, by rw [e0], by rw [e0]; exact hc, hm, Or.inl e0⟩, Below.refl _ _⟩
  · refine (Tryz.slices_Sort_string g 0 cap L w hH hg (by omega)).mono ?_
    rintro e w' ⟨rfl, k, os, he⟩
    have he' : w' = grow (putRow encStr (Sort.ahead w k) g 0 (sortB L).toArray) os := he
    obtain ⟨h1, h2⟩ := row_world hH (by simp [hsl]) hg he'
    refine ⟨rfl, ⟨_, cap, by rw [hsl], by rw [hsl]; exact hc, hm, Or.inr ⟨g, rfl, hBg, Nat.lt_of_lt_of_le hg h1.size, h2⟩⟩, ?_⟩
    exact (Below.refl B w).grown h1 hB (fun k e => by cases e; exact hBg)
theorem compN_any {B : Nat} {w : World} {v : Value} {L : List Bs} (h : HoldsL B w v L) (hB : B ≤ w.heap.size) : Calls Tryz.prog 113 #[v] w fun e w' => ∃ v', e = .returned v' ∧ HoldsL B w' v' (Lib.compact L) ∧ Below B w w' := by
  obtain ⟨p, cap, rfl, hc, hm, h⟩ := h
  have hcl := Lib.compact_length_le L
  rcases h with rfl | ⟨g, rfl, hBg, hg, hH⟩
  · refine (Tryz.slices_Compact_string_empty p cap w).mono ?_
    rintro e w' ⟨rfl, rfl⟩
    have e0 : Lib.compact ([] : List Bs) = [] := List.eq_nil_of_length_eq_zero (Nat.le_zero.1 hcl)
    exact ⟨_, rfl, ⟨p, cap, by rw [e0]; rfl, by rw [e0]; exact Nat.zero_le _, hm, Or.inl e0⟩, Below.refl _ _⟩
  · refine (Tryz.slices_Compact_string g 0 cap L w hH (by unfold maxLen at hm; omega) hc).mono ?_
    rintro e w' ⟨rfl, k, he⟩
    have he' : w' = grow (putRow encStr (Sort.ahead w k) g 0 (Lib.compact L ++ List.replicate (L.length - (Lib.compact L).length) []).toArray) #[] := by rw [grow_empty]; exact he
    obtain ⟨h1, h2⟩ := row_world hH (by simp; omega) hg he'
    refine ⟨_, rfl, ⟨_, cap, rfl, by omega, hm, Or.inr ⟨g, rfl, hBg, Nat.lt_of_lt_of_le hg h1.size, fun j hj => ?_⟩⟩, (Below.refl B w).grown h1 hB (fun k e => by cases e; exact hBg)⟩
    have hj' : j < (Lib.compact L).length := by simpa using hj
    obtain ⟨a, b⟩ := h2 j (by simp; omega)
    refine ⟨?_, b⟩
    rw [a]
    simp [hj', List.getElem?_append_left hj']
/-- an object's fields as Concat takes them -/
theorem part_objO {av : Nat → Prop} {w : World} {n : Nat} {fs : List (Bs × J n)} {p : Option Addr} {cap : Nat} (h : St av w (n + 1) (Sum.inr (Sum.inr fs)) (.iface 80 (.slice p fs.length cap))) :
    ∃ us : List Value, us.length = fs.length ∧ (∀ u ∈ us, ∃ T x, u = .iface T x) ∧ PartO w (.slice p fs.length cap) fs.length (flat fs us) := by
  rcases h with ⟨rfl, e⟩ | ⟨g, cap', vs, e, hvl, hlc, hcm, hg, hgw, hcell, hel⟩
  · injection e with _ e
    rw [e]
    refine ⟨[], rfl, ?_, ?_⟩
    · intro u hu
      simp at hu
    · exact ⟨rfl, fun u hu => by simp [flat] at hu, Or.inl ⟨rfl, rfl⟩⟩
  · injection e with _ e
    rw [e]
    have hif : ∀ u ∈ vs, ∃ T x, u = .iface T x := fun u hu => by
      obtain ⟨i, hi, rfl⟩ := List.getElem_of_mem hu
      exact st_iface (hel i _ _ (List.getElem?_eq_getElem (by omega : i < fs.length)) (List.getElem?_eq_getElem hi))
    refine ⟨vs, hvl, hif, ⟨flat_len fs vs hvl, flat_one fs vs (fun u hu => by obtain ⟨T, x, rfl⟩ := hif u hu; rfl), Or.inr ⟨g, 0, cap', rfl, fun _ => hgw, fun j u hj => ?_⟩⟩⟩
    have hjl : j < fs.length * 2 := by rw [← flat_len fs vs hvl]; exact (List.getElem?_eq_some_iff.1 hj).1
    have hi : j / 2 < fs.length := by omega
    have hf := List.getElem?_eq_getElem hi
    have hv := List.getElem?_eq_getElem (show j / 2 < vs.length by omega)
    obtain ⟨g1, g2⟩ := flat_get fs vs (j / 2) _ _ hf hv
    obtain ⟨c1, c2⟩ := hcell (j / 2) _ _ hf hv
    rw [Nat.zero_add]
    rcases Nat.mod_two_eq_zero_or_one j with h0 | h1
    · have e : j / 2 * 2 = j := by omega
      rw [e] at g1 c1
      rw [g1] at hj
      rw [c1, ← Option.some.inj hj]
    · have e : j / 2 * 2 + 1 = j := by omega
      rw [e] at g2 c2
      rw [g2] at hj
      rw [c2, ← Option.some.inj hj]
theorem two_cells {w : World} {g : Nat} {p q : Value} {t : TypeId} (h : w.heap[g]? = some (.cells #[p, q] t (0, 0))) (a b : Nat) (x y : List Value) : ∀ (j : Nat) (z : Value × Nat × List Value), [(p, a, x), (q, b, y)][j]? = some z → w.cell? ⟨g, j, none⟩ = some z.1 := by
  intro j z hj
  rw [cell_of_row _ _ _ _ _ _ h]
  match j, hj with
  | 0, hj => cases hj; rfl
  | 1, hj => cases hj; rfl
theorem newN_at (w : World) (x : Value) (e : TypeId) : ∀ (j : Nat) (u : Value), [x][j]? = some u → (w.alloc (.cells #[x] e)).cell? ((⟨w.heap.size, 0, none⟩ : Addr).add j) = some u := by
  intro j u hj
  match j, hj with
  | 0, hj => simp at hj; subst hj; simp [Addr.add]
theorem info_strN : (Tryz.prog.info? 9).map (fun i => (i.zero, i.size, i.bytes)) = some (some (.string ⟨#[]⟩), 1, 16) := by kernel_rfl
end Go.Proofs.YtaogilpkeeigoabGreatDoor
