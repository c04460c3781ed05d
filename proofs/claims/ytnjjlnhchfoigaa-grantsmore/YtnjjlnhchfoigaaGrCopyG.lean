/- Contracts over this translation: the document's Copy at roles and at binds. -/
import Derived.Test.YtnjjlnhchfoigaaGrRow
namespace Go.Proofs.Ytnjjlnhchfoigaa
open Go.RowKit
set_option linter.unusedVariables false
set_option linter.unusedSimpArgs false
set_option maxRecDepth 100000 in
set_option maxHeartbeats 2000000 in
theorem copyO_any (v : Value) (l : List Ro) (w0 w : World) (hv : Ros w0 v l) (hb0 : Below w0.heap.size w0 w) (hl : l.length * 56 ≤ 140737488355328) :
    Calls Try.prog 19 #[v] w fun e w' => ∃ u, e = .returned u ∧ OwnO w0 w.heap.size w' u l ∧ Below w.heap.size w w' := by
  obtain ⟨i0, hi, hz0, hz1, hz2⟩ := info_parts info_role
  obtain ⟨p, c, rfl, hn⟩ := Sq.form hv
  obtain ⟨_, hcase⟩ := sqC_vals (fun g o x => ro_q g o x) hv
  clear hv
  rcases hcase with ⟨rfl, rfl, rfl⟩ | ⟨ad, rfl, L, hL, h3, hS, hcs⟩
  · have HR : Hid (OwnO w0 w.heap.size w (.slice none 0 0) []) := ⟨[], rfl, (fun p hp => by cases hp), (fun p hp => by cases hp), World.ownsRow_nil _ _ _ _⟩
    go_enter Try.func19, Try.ntmps19
    go_wp2_with (at_builtin; refine wpList_append_own_none rfl _ _ 22 rfl w.heap.size 47 i0 3 Try.underlying22 hi _ _ _ rfl (World.ownsRow_nil _ _ _ _) rfl ?_)
    go_ret
    exact ⟨_, rfl, HR.out, Below.refl _ _⟩
  · have hLl : L.length = l.length := by rw [← hL, List.length_map]
    have H1 : Hid (∀ u ∈ flatC L, u.oneCell' = true) := flatO_one hS
    have HLn : Hid ((flatC L).length = l.length * 3) := by rw [← hLl]; exact flatC_len L h3
    have HCs : Hid (∀ (j : Nat) (u : Value), (flatC L)[j]? = some u → w.cell? (ad.add j) = some u) := fun j u h => cell_stays (hcs j u h) hb0
    have HS : Hid (StC QRo w0 L) := hS
    have H3 : Hid (∀ p ∈ L, p.2.length = 3) := h3
    have HL : Hid (L.map (·.1) = l) := hL
    have HLl : Hid (L.length = l.length) := hLl
    clear hL hS hLl hcs h3 hb0
    generalize hnl : l.length = nl at *
    go_enter Try.func19, Try.ntmps19
    go_wp2_with (at_builtin; refine wpList_append_own _ rfl _ _ 22 rfl w.heap.size 47 i0 (.agg #[.string ⟨#[]⟩, .string ⟨#[]⟩, .slice none 0 0]) 3 56 Try.underlying22 hi hz0 hz1 hz2 rfl (by decide) _ _ _ rfl (World.ownsRow_nil _ _ _ _) ad nl c (flatC L) rfl HLn.out HCs.out H1.out (by unfold maxLen at *; omega) (by omega) (Nat.le_refl _) ?_)
    intro v' w3 hown' hgrow _
    have HR : Hid (OwnO w0 w.heap.size w3 v' l) := ⟨L, HL.out, H3.out, HS.out, by rw [HLl.out]; exact hown'⟩
    have HB : Hid (Below w.heap.size w w3) := (Below.refl w.heap.size w).grown hgrow (Nat.le_refl _) (fun b hb => by simp [Value.ownBlock] at hb)
    clear hown' hgrow
    go_wp2_with fail
    go_ret
    exact ⟨v', rfl, HR.out, HB.out⟩
set_option maxRecDepth 100000 in
set_option maxHeartbeats 2000000 in
theorem copyB_any (v : Value) (l : List Bi) (w0 w : World) (hv : Bis w0 v l) (hb0 : Below w0.heap.size w0 w) (hl : l.length * 104 ≤ 140737488355328) :
    Calls Try.prog 20 #[v] w fun e w' => ∃ u, e = .returned u ∧ OwnBi w0 w.heap.size w' u l ∧ Below w.heap.size w w' := by
  obtain ⟨i0, hi, hz0, hz1, hz2⟩ := info_parts info_bind
  obtain ⟨p, c, rfl, hn⟩ := Sq.form hv
  obtain ⟨_, hcase⟩ := sqC_vals (fun g o x => bi_q g o x) hv
  clear hv
  rcases hcase with ⟨rfl, rfl, rfl⟩ | ⟨ad, rfl, L, hL, h3, hS, hcs⟩
  · have HR : Hid (OwnBi w0 w.heap.size w (.slice none 0 0) []) := ⟨[], rfl, (fun p hp => by cases hp), (fun p hp => by cases hp), World.ownsRow_nil _ _ _ _⟩
    go_enter Try.func20, Try.ntmps20
    go_wp2_with (at_builtin; refine wpList_append_own_none rfl _ _ 23 rfl w.heap.size 49 i0 6 Try.underlying23 hi _ _ _ rfl (World.ownsRow_nil _ _ _ _) rfl ?_)
    go_ret
    exact ⟨_, rfl, HR.out, Below.refl _ _⟩
  · have hLl : L.length = l.length := by rw [← hL, List.length_map]
    have H1 : Hid (∀ u ∈ flatC L, u.oneCell' = true) := flatB_one hS
    have HLn : Hid ((flatC L).length = l.length * 6) := by rw [← hLl]; exact flatC_len L h3
    have HCs : Hid (∀ (j : Nat) (u : Value), (flatC L)[j]? = some u → w.cell? (ad.add j) = some u) := fun j u h => cell_stays (hcs j u h) hb0
    have HS : Hid (StC QBi w0 L) := hS
    have H3 : Hid (∀ p ∈ L, p.2.length = 6) := h3
    have HL : Hid (L.map (·.1) = l) := hL
    have HLl : Hid (L.length = l.length) := hLl
    clear hL hS hLl hcs h3 hb0
    generalize hnl : l.length = nl at *
    go_enter Try.func20, Try.ntmps20
    go_wp2_with (at_builtin; refine wpList_append_own _ rfl _ _ 23 rfl w.heap.size 49 i0 (.agg #[.string ⟨#[]⟩, .string ⟨#[]⟩, .string ⟨#[]⟩, .bool false, .slice none 0 0, .slice none 0 0]) 6 104 Try.underlying23 hi hz0 hz1 hz2 rfl (by decide) _ _ _ rfl (World.ownsRow_nil _ _ _ _) ad nl c (flatC L) rfl HLn.out HCs.out H1.out (by unfold maxLen at *; omega) (by omega) (Nat.le_refl _) ?_)
    intro v' w3 hown' hgrow _
    have HR : Hid (OwnBi w0 w.heap.size w3 v' l) := ⟨L, HL.out, H3.out, HS.out, by rw [HLl.out]; exact hown'⟩
    have HB : Hid (Below w.heap.size w w3) := (Below.refl w.heap.size w).grown hgrow (Nat.le_refl _) (fun b hb => by simp [Value.ownBlock] at hb)
    clear hown' hgrow
    go_wp2_with fail
    go_ret
    exact ⟨v', rfl, HR.out, HB.out⟩
end Go.Proofs.Ytnjjlnhchfoigaa
