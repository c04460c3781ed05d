/- Rows of numbers of one's own beside each other: plain facts; the document's Sum, plain. -/
import Derived.Test.YtmbpjbghhimedaaGreatDoorSlRfPrimes
import Derived.Test.YtmbpjbghhimedaaGreatDoorSlRfPrT
import Derived.Deep.AppendLies
namespace Go.Proofs.YtmbpjbghhimedaaGreatDoor
open Go.RowKit
set_option linter.unusedVariables false
set_option linter.unusedSimpArgs false
theorem info_u32 : (Tryz.prog.info? 85).map (fun i => (i.zero, i.size, i.bytes)) = some (some (.int .u32 0), 1, 4) := by kernel_rfl
theorem own_below {w w' : World} {B : Nat} {e : TypeId} {v : Value} {n : Nat} {xs : List Value} (h : w.ownsRow B e 1 v n xs) (g : Below w.heap.size w w') : w'.ownsRow B e 1 v n xs := by
  refine World.ownsRow.kept (row := none) h ⟨g.os, g.tape, g.output, g.size, fun k hk _ => g.block k hk⟩ ?_
  cases v.ownBlock with
  | none => exact Or.inl rfl
  | some x => exact Or.inr (fun e => by cases e)
/-- no block in common -/
def Apart (u v : Value) : Prop := ∀ g, u.ownBlock = some g → v.ownBlock ≠ some g
theorem own_kept {w w' : World} {B : Nat} {e : TypeId} {u v : Value} {n : Nat} {xs : List Value} (h : w.ownsRow B e 1 v n xs) (hg : w.grownBy w' u.ownBlock) (ha : Apart u v) : w'.ownsRow B e 1 v n xs := by
  refine World.ownsRow.kept (row := u.ownBlock) h hg ?_
  cases hv : v.ownBlock with
  | none => exact Or.inl rfl
  | some x => exact Or.inr (fun e => ha x e.symm (by rw [hv]))
theorem own_lt {w : World} {B : Nat} {e : TypeId} {v : Value} {n : Nat} {xs : List Value} (h : w.ownsRow B e 1 v n xs) {g : Nat} (hg : v.ownBlock = some g) : B ≤ g ∧ g < w.heap.size := World.ownsRow.lt h g hg
/-- the blocks of a text, mixed in one behind the other -/
def blocksP (h : List Nat) : Nat → Bs → List Nat
  | 0, _ => h
  | k + 1, t => blocksP (mixP h (t.take 64)) k (t.drop 64)
theorem over_whole {r p : Bs} (hr : r.length = 64) (hp : p.length = 64) : over r p 0 = p := by
  unfold over
  rw [List.take_zero, List.nil_append, Nat.zero_add, List.drop_of_length_le (by omega), List.append_nil]
theorem feed_blocks : ∀ (k : Nat) (st : List Nat) (r : Bs) (m : Nat) (t : Bs), r.length = 64 → m < big → m % 64 = 0 → t.length = 64 * k → (feedP (st, r, m) t).1 = blocksP st k t
  | 0, st, r, m, t, _, _, _, ht => by
    have : t = [] := List.length_eq_zero_iff.1 (by omega)
    rw [this]
    rfl
  | k + 1, st, r, m, t, hr, hm, h0, ht => by
    have hl : (t.take 64).length = 64 := by rw [List.length_take]; omega
    have hf := feed_over (t.take 64) st r m (by intro e; rw [e] at hl; simp at hl) hr hm (by omega)
    rw [hl, h0, over_whole hr hl] at hf
    have h2 : (m + 64) % big % 64 = 0 := by simp only [big]; omega
    rw [if_pos h2] at hf
    have ht2 : feedP (st, r, m) t = feedP (feedP (st, r, m) (t.take 64)) (t.drop 64) := by rw [← feedP_append, List.take_append_drop]
    rw [ht2, hf]
    exact feed_blocks k _ _ _ _ hl (Nat.mod_lt _ (by decide)) h2 (by rw [List.length_drop]; omega)
theorem feed_many : ∀ (s : Bs) (h : HS), h.2.2 < big → (feedP h s).2.2 = (h.2.2 + s.length) % big
  | [], h, hh => by show h.2.2 = _; rw [List.length_nil, Nat.add_zero, Nat.mod_eq_of_lt hh]
  | c :: s, h, hh => by
    show (feedP (feed h c) s).2.2 = _
    rw [feed_many s (feed h c) (Nat.mod_lt _ (by decide))]
    show ((h.2.2 + 1) % big + s.length) % big = _
    rw [List.length_cons]
    simp only [big]
    omega
/-- all that is summed -/
def wholeP (s : Bs) : Bs := s ++ endP s.length
theorem whole_len (s : Bs) : (wholeP s).length = 64 * ((s.length + 9 + noughts s.length) / 64) := by
  have h8 : (eightP (s.length * 8 % 18446744073709551616)).length = 8 := by simp [eightP]
  unfold wholeP endP
  simp only [List.length_append, List.length_cons, List.length_nil, List.length_replicate, h8]
  unfold noughts
  omega
theorem sum_blocks (s : Bs) (hs : s.length < big) : sumP s = bytesP (blocksP first8 ((s.length + 9 + noughts s.length) / 64) (wholeP s)) := by
  have hm : (feedP newP s).2.2 = s.length := by
    rw [feed_many s newP (by decide)]
    show (0 + s.length) % big = _
    rw [Nat.zero_add, Nat.mod_eq_of_lt hs]
  unfold sumP sumH
  rw [hm, ← feedP_append]
  congr 1
  exact feed_blocks _ first8 (List.replicate 64 0) 0 (wholeP s) (by simp) (by decide) rfl (whole_len s)
theorem prime_at (i : Nat) (h : i < 64) : ∃ p, (prP 312)[i]? = some p ∧ p < big ∧ rootP p 3 = kTab.getD i 0 ∧ (i < 8 → rootP p 2 = first8.getD i 0) := by
  have hl : (prP 312).length = 64 := by rw [pr_all]; rfl
  refine ⟨(prP 312)[i]'(by omega), List.getElem?_eq_getElem (by omega), ?_, ?_, fun h8 => ?_⟩
  · have := (pr_two 312 _ (List.getElem_mem (by omega : i < (prP 312).length))).2
    exact Nat.lt_trans this (by decide)
  · have h3 := congrArg (fun l => l.getD i 0) roots3
    simp only [List.getD_eq_getElem?_getD, List.getElem?_map, List.getElem?_eq_getElem (by omega : i < (prP 312).length)] at h3 ⊢
    exact h3
  · have h3 := congrArg (fun l => l.getD i 0) roots2
    simp only [List.getD_eq_getElem?_getD, List.getElem?_map, List.getElem?_take, if_pos h8, List.getElem?_eq_getElem (by omega : i < (prP 312).length)] at h3 ⊢
    exact h3
end Go.Proofs.YtmbpjbghhimedaaGreatDoor
