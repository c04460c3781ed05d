/- Contract over this translation: query.Solve. -/
import Derived.Test.YtgaopmdpcjcooaaGreatDoorQSolveM
import Derived.Test.YtgaopmdpcjcooaaGreatDoorQCheck
namespace Go.Proofs.YtgaopmdpcjcooaaGreatDoor
open Go.RowKit
set_option linter.unusedVariables false
set_option linter.unusedSimpArgs false
set_option maxHeartbeats 1000000 in
theorem solveTop_any (v : Value) (l : List Rq) (w : World) (hv : Reqs w v l) (hf : ∀ r ∈ l, Fit r) (hR : Room w) :
    Calls Tryz.prog 5 #[v] w fun e w' => ∃ u b, e = .returned (.tuple #[u, .bool b, .int .i64 (chkI l)]) ∧ ((chkI l ≠ 0 ∧ b = false ∧ u = .slice none 0 0) ∨ (chkI l = 0 ∧ SolveR l w' u b)) ∧ Below w.heap.size w w' := by
  have HC : Hid (Calls Tryz.prog 20 #[v] w fun e w' => e = .returned (.int .i64 (chkI l)) ∧ Below w.heap.size w w') := chk_any v l w hv hf hR
  have HS : Hid (chkI l = 0 → ∀ w1, Below w.heap.size w w1 → Calls Tryz.prog 21 #[v] w1 fun e w' => ∃ u b, e = .returned (.tuple #[u, .bool b]) ∧ SolveR l w' u b ∧ Below w1.heap.size w1 w') := fun h w1 hb => solve_any v l w1 (hv.below hb) (fine_of_chk h)
  obtain ⟨p, c, rfl, hn, hcell⟩ := hv.open
  clear hv hcell hf hR hn
  by_cases h1 : chkI l = 0
  · have HS2 : Hid (∀ w1, Below w.heap.size w w1 → Calls Tryz.prog 21 #[.slice p l.length c] w1 fun e w' => ∃ u b, e = .returned (.tuple #[u, .bool b]) ∧ SolveR l w' u b ∧ Below w1.heap.size w1 w') := HS.out h1
    rw [h1] at HC ⊢
    clear h1 HS
    generalize l.length = nl at *
    go_enter Tryz.func5, Tryz.ntmps5
    go_wp2_with fail
    refine Calls.mono HC.out ?_
    rintro e w1 ⟨rfl, b⟩
    have HB : Hid (Below w.heap.size w w1) := b
    clear b
    go_wp2_with fail
    refine Calls.mono (HS2.out w1 HB.out) ?_
    rintro e w2 ⟨u, x, rfl, hs, b⟩
    have HB2 : Hid (Below w.heap.size w w2) := HB.out.trans (b.mono HB.out.size)
    have HSR : Hid (SolveR l w2 u x) := hs
    clear b hs
    go_wp2_with fail
    exact bodyPost_ret (v := .tuple #[u, .bool x, .int .i64 0]) (by simp [results, Tryz.results5, go_sem]) rfl ⟨u, x, rfl, Or.inr ⟨by trivial, HSR.out⟩, HB2.out⟩
  · have hn1 : (chkI l != 0) = true := by simpa using h1
    have HN : Hid (chkI l ≠ 0) := h1
    clear h1 HS
    generalize chkI l = ce at *
    generalize l.length = nl at *
    go_enter Tryz.func5, Tryz.ntmps5
    go_wp2_with fail
    refine Calls.mono HC.out ?_
    rintro e w1 ⟨rfl, b⟩
    have HB : Hid (Below w.heap.size w w1) := b
    clear b
    go_wp2_with fail
    exact bodyPost_ret (v := .tuple #[.slice none 0 0, .bool false, .int .i64 ce]) (by simp [results, Tryz.results5, go_sem]) rfl ⟨_, _, rfl, Or.inl ⟨HN.out, rfl, rfl⟩, HB.out⟩
theorem fitL_of_labels {ls : List Lb} (h : labelsI ls = 0) : ∀ x ∈ ls, x.1.length ≤ maxLen ∧ x.2.length ≤ maxLen := by
  intro x hx
  have : ∀ (ls : List Lb) (p : Option Bs), labsI ls p = 0 → ∀ x ∈ ls, kI x.1 = 0 ∧ vI x.2 = 0 := by
    intro ls
    induction ls with
    | nil => intro p _ x hx; cases hx
    | cons y r ih =>
      intro p h x hx
      rw [labsI] at h
      by_cases h1 : kI y.1 = 0
      · rw [if_neg (by simp [h1])] at h
        by_cases h2 : vI y.2 = 0
        · rw [if_neg (by simp [h2])] at h
          by_cases h3 : above p y.1 = false
          · rw [if_pos h3] at h; cases h
          · rw [if_neg h3] at h
            rcases List.mem_cons.1 hx with rfl | hx
            · exact ⟨h1, h2⟩
            · exact ih _ h x hx
        · rw [if_pos h2] at h; exact absurd h h2
      · rw [if_pos h1] at h; exact absurd h h1
  unfold labelsI at h
  by_cases h10 : 10 < ls.length
  · rw [if_pos h10] at h; cases h
  · rw [if_neg h10] at h
    obtain ⟨h1, h2⟩ := this ls none h x hx
    have a := kI_len h1
    have b := vI_len h2
    unfold maxLen
    omega
end Go.Proofs.YtgaopmdpcjcooaaGreatDoor
