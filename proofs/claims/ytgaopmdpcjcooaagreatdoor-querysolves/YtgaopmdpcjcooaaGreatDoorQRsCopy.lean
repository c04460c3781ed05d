/- Contracts over this translation of the reference's Copy and Sort, at lists of texts. -/
import Derived.Test.YtgaopmdpcjcooaaGreatDoorQRsBase
import Derived.Test.YtgaopmdpcjcooaaGreatDoorRfOrd
import Derived.Laws.AppendOwnNone
import Derived.WalkLawsBesides
namespace Go.Proofs.YtgaopmdpcjcooaaGreatDoor
open Go.RowKit
set_option linter.unusedVariables false
set_option linter.unusedSimpArgs false
/-- a list of texts in memory, from some place on -/
def TSl (w : World) (L : List Bs) (v : Value) : Prop :=
  (v = .slice none 0 0 ∧ L = []) ∨ ∃ g o cap, v = .slice (some ⟨g, o, none⟩) L.length cap ∧ ∀ (i : Nat) (s : Bs), L[i]? = some s → g < w.heap.size ∧ w.cell? ⟨g, o + i, none⟩ = some (.string ⟨s.toArray⟩)
theorem TSl.below {w w' : World} {L : List Bs} {v : Value} (h : TSl w L v) (b : Below w.heap.size w w') : TSl w' L v := by
  rcases h with h | ⟨g, o, cap, hv, hc⟩
  · exact Or.inl h
  · refine Or.inr ⟨g, o, cap, hv, fun i s hi => ?_⟩
    obtain ⟨h1, h2⟩ := hc i s hi
    exact ⟨Nat.lt_of_lt_of_le h1 b.size, by rw [b.cell (p := ⟨g, o + i, none⟩) h1]; exact h2⟩
theorem RStrs.tsl {av : Nat → Prop} {w : World} {L : List Bs} {v : Value} (h : RStrs av w L v) : TSl w L v := by
  rcases h with ⟨h1, h2⟩ | ⟨g, cap, hv, _, _, _, hlt, hc⟩
  · exact Or.inl ⟨h2, h1⟩
  · exact Or.inr ⟨g, 0, cap, hv, fun i s hi => ⟨hlt, by rw [Nat.zero_add]; exact hc i s hi⟩⟩
theorem OwnT.tsl {N : Nat} {w : World} {L : List Bs} {v : Value} (h : OwnT N w L v) : TSl w L v := (h.strs (av := fun _ => False) (fun _ _ e => e)).tsl
theorem texts_get {L : List Bs} {j : Nat} {u : Value} (h : (L.map fun s => Value.string ⟨s.toArray⟩)[j]? = some u) : ∃ s, L[j]? = some s ∧ u = .string ⟨s.toArray⟩ := by
  rw [List.getElem?_map] at h
  obtain ⟨s, h1, h2⟩ := Option.map_eq_some_iff.1 h
  exact ⟨s, h1, h2.symm⟩
theorem texts_one (L : List Bs) : ∀ u ∈ (L.map fun s => Value.string ⟨s.toArray⟩), u.oneCell' = true := fun u hu => by
  obtain ⟨s, _, rfl⟩ := List.mem_map.1 hu
  rfl
theorem texts_news {w : World} {L : List Bs} {g o : Nat} (h : ∀ (i : Nat) (s : Bs), L[i]? = some s → g < w.heap.size ∧ w.cell? ⟨g, o + i, none⟩ = some (.string ⟨s.toArray⟩)) : ∀ j u, (L.map fun s => Value.string ⟨s.toArray⟩)[j]? = some u → w.cell? ((⟨g, o, none⟩ : Addr).add j) = some u := fun j u hu => by
  obtain ⟨s, h1, rfl⟩ := texts_get hu
  rw [Addr.add_lit]
  exact (h j s h1).2
set_option maxRecDepth 100000 in
set_option maxHeartbeats 2000000 in
theorem rfcopy_any (L : List Bs) (v : Value) (w : World) (h : TSl w L v) (hl : L.length ≤ 1000000) :
    Calls Tryz.prog 71 #[v] w fun e w' => ∃ u, e = .returned u ∧ OwnT w.heap.size w' L u ∧ Below w.heap.size w w' := by
  obtain ⟨i0, hi, hz0, hz1, hz2⟩ := info_parts info_text
  have HN : Hid (w.ownsRow w.heap.size 9 1 (.slice none 0 0) 0 []) := World.ownsRow_nil _ _ _ _
  rcases h with ⟨rfl, rfl⟩ | ⟨g, o, cap, rfl, hc⟩
  · go_enter Tryz.func71, Tryz.ntmps71
    go_wp2_with (at_builtin; refine wpList_append_own_none rfl _ _ 33 rfl w.heap.size 9 i0 1 Tryz.underlying33 hi _ _ _ rfl HN.out rfl ?_)
    go_ret
    exact ⟨_, rfl, OwnT.nil _ _, Below.refl _ _⟩
  · have HW : Hid (∀ j u, (L.map fun s => Value.string ⟨s.toArray⟩)[j]? = some u → w.cell? ((⟨g, o, none⟩ : Addr).add j) = some u) := texts_news hc
    have HLn : Hid ((L.map fun s => Value.string ⟨s.toArray⟩).length = L.length * 1) := by show _ = _; simp
    have H1 : Hid (∀ u ∈ (L.map fun s => Value.string ⟨s.toArray⟩), u.oneCell' = true) := texts_one L
    have HLd : Hid (L.map (fun s => Value.string ⟨s.toArray⟩) = L.map (fun s => Value.string ⟨s.toArray⟩)) := rfl
    generalize hnw : (L.map fun s => Value.string ⟨s.toArray⟩) = news at *
    clear hc
    go_enter Tryz.func71, Tryz.ntmps71
    go_wp2_with (at_builtin; refine wpList_append_own _ rfl _ _ 33 rfl w.heap.size 9 i0 (Value.string ⟨#[]⟩) 1 16 Tryz.underlying33 hi hz0 hz1 hz2 rfl (by decide) _ _ _ rfl HN.out ⟨g, o, none⟩ L.length cap news rfl HLn.out HW.out H1.out (by unfold maxLen; omega) (by omega) (Nat.le_refl _) ?_)
    intro v' w3 hown hgrow _
    have HO : Hid (OwnT w.heap.size w3 L v') := by
      show w3.ownsRow _ _ _ _ _ _
      rw [hnw]
      exact hown
    have HB : Hid (Below w.heap.size w w3) := (Below.refl _ _).grown hgrow (Nat.le_refl _) (fun k e => by simp [Value.ownBlock] at e)
    clear hown hgrow
    go_wp2_with fail
    go_ret
    exact ⟨_, rfl, HO.out, HB.out⟩
end Go.Proofs.YtgaopmdpcjcooaaGreatDoor
