/- What the reference makes of fields: plain functions; of no program. -/
import Derived.Test.YtaogilpkeeigoaaGreatDoorDoc
namespace Go.Proofs.YtaogilpkeeigoaaGreatDoor
set_option linter.unusedVariables false
set_option linter.unusedSimpArgs false
/-- the reference's Set, as it goes along: z says whether the field was put already -/
def setGo {α : Type} (nm : Bs) (v : α) : Bool → List (Bs × α) → List (Bs × α)
  | z, [] => if z then [] else [(nm, v)]
  | z, f :: r =>
    (if z = false ∧ less f.1 nm = false then [(nm, v)] else []) ++ ((if f.1 = nm then [] else [f]) ++ setGo nm v (z || !less f.1 nm) r)
def setF {α : Type} (fs : List (Bs × α)) (nm : Bs) (v : α) : List (Bs × α) := setGo nm v false fs
theorem setGo_true {α : Type} (nm : Bs) (v : α) : ∀ (fs : List (Bs × α)), (∀ f ∈ fs, f.1 ≠ nm) → setGo nm v true fs = fs
  | [], _ => rfl
  | f :: r, h => by
    simp only [setGo]
    rw [if_neg (by simp), if_neg (h f (by simp)), Bool.true_or, setGo_true nm v r (fun g hg => h g (List.mem_cons_of_mem _ hg))]
    rfl
theorem setF_new {α : Type} (nm : Bs) (v : α) : ∀ (fs : List (Bs × α)), (∀ f ∈ fs, f.1 ≠ nm) → setF fs nm v = insertAt fs nm v
  | [], _ => rfl
  | f :: r, h => by
    have hr : ∀ g ∈ r, g.1 ≠ nm := fun g hg => h g (List.mem_cons_of_mem _ hg)
    have hf := h f (by simp)
    unfold setF insertAt
    simp only [setGo]
    cases hl : less f.1 nm with
    | true =>
      rw [if_neg (by simp), if_neg hf, List.takeWhile_cons_of_pos (p := fun f : Bs × α => less f.1 nm) hl, List.dropWhile_cons_of_pos (p := fun f : Bs × α => less f.1 nm) hl]
      have ih := setF_new nm v r hr
      unfold setF insertAt at ih
      simp only [Bool.not_true, Bool.or_self, List.nil_append, List.cons_append]
      rw [ih]
    | false =>
      rw [if_pos (by simp), if_neg hf, List.takeWhile_cons_of_neg (p := fun f : Bs × α => less f.1 nm) (by simp [hl]), List.dropWhile_cons_of_neg (p := fun f : Bs × α => less f.1 nm) (by simp [hl])]
      simp only [Bool.not_false, Bool.or_true]
      rw [setGo_true nm v r hr]
      rfl
/-- the reference's Drop -/
def dropF {α : Type} (fs : List (Bs × α)) (nm : Bs) : List (Bs × α) := fs.filter fun f => decide (f.1 ≠ nm)
/-- the reference's Find -/
def findF {α : Type} (fs : List (Bs × α)) (nm : Bs) : Option α := (fs.find? fun f => decide (f.1 = nm)).map fun f => f.2
theorem findF_any {α : Type} (fs : List (Bs × α)) (nm : Bs) : (findF fs nm).isSome = fs.any (fun f => f.1 == nm) := by
  unfold findF
  rw [Option.isSome_map, Bool.eq_iff_iff, List.find?_isSome]
  simp
end Go.Proofs.YtaogilpkeeigoaaGreatDoor
