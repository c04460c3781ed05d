/- Contracts over this translation: the document's Copy at parts of selectors; append of a selector behind it. -/
import Derived.Test.YtgaopmdpcjcooaaGreatDoorQImp
import Derived.Laws.AppendOwnNone
namespace Go.Proofs.YtgaopmdpcjcooaaGreatDoor
open Go.RowKit
set_option linter.unusedVariables false
set_option linter.unusedSimpArgs false
/-- parts of one's own -/
def OwnR (w0 : World) (B : Nat) (w : World) (v : Value) (l : List Rq) : Prop := ∃ L : List (Rq × Value), L.map (·.1) = l ∧ (∀ p ∈ L, Strs w0 p.2 p.1.2.2) ∧ w.ownsRow B 35 3 v L.length (flatR L)
theorem OwnR.reqs {w0 w : World} {B : Nat} {v : Value} {l : List Rq} (h : OwnR w0 B w v l) (hb : Below w0.heap.size w0 w) : Reqs w v l := by
  obtain ⟨L, rfl, hS, hO⟩ := h
  exact reqs_of_owns hO (fun p hp => (hS p hp).below hb)
theorem OwnR.good {w0 w : World} {B : Nat} {v : Value} {l : List Rq} (h : OwnR w0 B w v l) : GoodV v := by
  obtain ⟨L, rfl, hS, _, ⟨rfl, _⟩ | ⟨g, cap, cur, rfl, _⟩⟩ := h
  · exact Or.inl rfl
  · exact Or.inr ⟨_, _, _, rfl⟩
set_option maxHeartbeats 2000000 in
theorem copy_any (v : Value) (l : List Rq) (w : World) (hv : Reqs w v l) (hg : GoodV v) (hl : l.length * 48 ≤ 140737488355328) :
    Calls Tryz.prog 26 #[v] w fun e w' => ∃ u, e = .returned u ∧ OwnR w w.heap.size w' u l ∧ Below w.heap.size w w' := by
  obtain ⟨i0, hi, hz0, hz1, hz2⟩ := info_parts info_req
  obtain ⟨L, hL, hS, hP⟩ := reqs_part hv hg
  have hLl : L.length = l.length := by rw [← hL, List.length_map]
  obtain ⟨hcl, hc1, hsh⟩ := hP
  have H1 : Hid (∀ u ∈ flatR L, u.oneCell' = true) := hc1
  have HLn : Hid ((flatR L).length = l.length * 3) := hcl
  rcases hsh with ⟨rfl, hm0⟩ | ⟨ad, c, rfl, hgl, hcs⟩
  · have hL0 : L = [] := List.eq_nil_of_length_eq_zero (by omega)
    subst hL0
    have HR : Hid (OwnR w w.heap.size w (.slice none 0 0) l) := ⟨[], hL, (fun p hp => by cases hp), World.ownsRow_nil _ _ _ _⟩
    clear hL hS hLl hcl hc1 hv hg
    go_enter Tryz.func26, Tryz.ntmps26
    go_wp2_with (at_builtin; refine wpList_append_own_none rfl _ _ 22 rfl w.heap.size 35 i0 3 Tryz.underlying22 hi _ _ _ rfl (World.ownsRow_nil _ _ _ _) rfl ?_)
    go_ret
    exact ⟨_, rfl, HR.out, Below.refl _ _⟩
  · have HCs : Hid (∀ (j : Nat) (u : Value), (flatR L)[j]? = some u → w.cell? (ad.add j) = some u) := hcs
    have HS : Hid (∀ p ∈ L, Strs w p.2 p.1.2.2) := hS
    have HL : Hid (L.map (·.1) = l) := hL
    have HLl : Hid (L.length = l.length) := hLl
    clear hL hS hLl hcl hc1 hv hg hcs hgl
    generalize hn : l.length = nl at *
    go_enter Tryz.func26, Tryz.ntmps26
    go_wp2_with (at_builtin; refine wpList_append_own _ rfl _ _ 22 rfl w.heap.size 35 i0 (.agg #[.string ⟨#[]⟩, .int .i64 0, .slice none 0 0]) 3 48 Tryz.underlying22 hi hz0 hz1 hz2 rfl (by decide) _ _ _ rfl (World.ownsRow_nil _ _ _ _) ad nl c (flatR L) rfl HLn.out HCs.out H1.out (by unfold maxLen; omega) (by omega) (Nat.le_refl _) ?_)
    intro v' w3 hown' hgrow _
    have HR : Hid (OwnR w w.heap.size w3 v' l) := ⟨L, HL.out, HS.out, by rw [HLl.out]; exact hown'⟩
    have HB : Hid (Below w.heap.size w w3) := (Below.refl w.heap.size w).grown hgrow (Nat.le_refl _) (fun b hb => by simp [Value.ownBlock] at hb)
    clear hown' hgrow
    go_wp2_with fail
    go_ret
    exact ⟨v', rfl, HR.out, HB.out⟩
end Go.Proofs.YtgaopmdpcjcooaaGreatDoor
