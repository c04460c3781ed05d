/- Lists of texts of one's own, and of the document's; the order of texts: plain facts. -/
import Derived.Test.YtgaopmdpcjcooaaGreatDoorQMem
import Derived.Laws.AppendOwn
import Derived.Deep.AppendLies
namespace Go.Proofs.YtgaopmdpcjcooaaGreatDoor
open Go.RowKit
set_option linter.unusedVariables false
set_option linter.unusedSimpArgs false
theorem info_text : (Tryz.prog.info? 9).map (fun i => (i.zero, i.size, i.bytes)) = some (some (.string ⟨#[]⟩), 1, 16) := by kernel_rfl
abbrev less (a b : Bs) : Bool := bless a b
theorem less_bytes' (a b : Bs) : Op.bytesLess a b = less a b := rfl
theorem m_irrefl (s : Bs) : less s s = false := by
  rw [← Bool.not_eq_true, show less s s = bless s s from rfl, bless_iff]
  exact List.lt_irrefl s
theorem m_trans {a b c : Bs} (h : less a b = true) (g : less b c = true) : less a c = true := (bless_iff _ _).2 (List.lt_trans ((bless_iff _ _).1 h) ((bless_iff _ _).1 g))
theorem m_ne {s t : Bs} (h : less s t = true) : s ≠ t := fun e => by
  subst e
  rw [m_irrefl] at h
  cases h
theorem less_of_not {a b : Bs} (h : less a b = false) (hne : a ≠ b) : less b a = true := by
  rw [show less b a = bless b a from rfl, bless_iff]
  have h1 : ¬ a < b := fun hl => by
    have := (bless_iff a b).2 hl
    rw [show less a b = bless a b from rfl, this] at h
    cases h
  by_cases h2 : b < a
  · exact h2
  · exact absurd (List.le_antisymm (List.not_lt.1 h2) (List.not_lt.1 h1)) hne
theorem drop_at {α : Type} {l : List α} {k : Nat} {x : α} (h : l[k]? = some x) : l.drop k = x :: l.drop (k + 1) := by
  obtain ⟨hk, rfl⟩ := List.getElem?_eq_some_iff.1 h
  exact List.drop_eq_getElem_cons hk
def insS (out : List Bs) (s : Bs) : List Bs := (out.takeWhile fun t => !less s t) ++ s :: (out.dropWhile fun t => !less s t)
def sortR (l : List Bs) : List Bs := l.foldl insS []
theorem own_none (v : Value) : v.ownBlock = none ∨ v.ownBlock ≠ (none : Option Nat) := by
  cases v.ownBlock with
  | none => exact Or.inl rfl
  | some x => exact Or.inr (fun e => by cases e)
def RStrs (av : Nat → Prop) (w : World) (L : List Bs) (v : Value) : Prop :=
  (L = [] ∧ v = .slice none 0 0) ∨ ∃ g cap, v = .slice (some ⟨g, 0, none⟩) L.length cap ∧ L.length ≤ cap ∧ cap ≤ maxLen ∧ ¬ av g ∧ g < w.heap.size ∧ ∀ (i : Nat) (s : Bs), L[i]? = some s → w.cell? ⟨g, i, none⟩ = some (.string ⟨s.toArray⟩)
def OwnT (N : Nat) (w : World) (L : List Bs) (v : Value) : Prop := w.ownsRow N 9 1 v L.length (L.map fun s => .string ⟨s.toArray⟩)
theorem OwnT.nil (N : Nat) (w : World) : OwnT N w [] (.slice none 0 0) := World.ownsRow_nil _ _ _ _
theorem OwnT.row {N : Nat} {w : World} {L : List Bs} {v : Value} (h : OwnT N w L v) : ∀ k, v.ownBlock = some k → N ≤ k ∧ k < w.heap.size := World.ownsRow.lt h
theorem OwnT.kept {N : Nat} {w w' : World} {L : List Bs} {v : Value} {row : Option Nat} (h : OwnT N w L v) (hg : w.grownBy w' row) (hne : v.ownBlock = none ∨ v.ownBlock ≠ row) : OwnT N w' L v := World.ownsRow.kept h hg hne
theorem OwnT.alloc {N : Nat} {w : World} {L : List Bs} {v : Value} (h : OwnT N w L v) (o : Obj) : OwnT N (w.alloc o) L v := World.ownsRow.alloc h o
theorem OwnT.strs {av : Nat → Prop} {N : Nat} {w : World} {L : List Bs} {v : Value} (h : OwnT N w L v) (hav : ∀ c, N ≤ c → ¬ av c) : RStrs av w L v := by
  obtain ⟨hl, ⟨rfl, h0⟩ | ⟨g, cap, cur, rfl, hB, hg, hc, hm, hs, ht⟩⟩ := h
  · exact Or.inl ⟨List.eq_nil_of_length_eq_zero h0, rfl⟩
  · refine Or.inr ⟨g, cap, rfl, hc, hm, hav g hB, lt_of_block hg, fun i s hi => ?_⟩
    obtain ⟨hlt, he⟩ := List.getElem?_eq_some_iff.1 hi
    rw [cell_of_row _ _ _ _ _ _ hg]
    have h1 : (cur.toList.take (L.length * 1))[i]? = some (.string ⟨s.toArray⟩) := by rw [ht]; simp [hlt, he]
    rw [List.getElem?_take, if_pos (by omega), Array.getElem?_toList] at h1
    exact h1
theorem OwnT.shape {N : Nat} {w : World} {L : List Bs} {v : Value} (h : OwnT N w L v) : ∃ p c, v = .slice p L.length c := by
  rcases h.2 with ⟨rfl, h0⟩ | ⟨g, cap, cur, rfl, _⟩
  · exact ⟨none, 0, by rw [h0]⟩
  · exact ⟨_, cap, rfl⟩
end Go.Proofs.YtgaopmdpcjcooaaGreatDoor
