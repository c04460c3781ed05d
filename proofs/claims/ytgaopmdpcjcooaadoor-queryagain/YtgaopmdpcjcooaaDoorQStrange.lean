/- The walk of the law QueryNot over this translation. -/
import Derived.Test.YtgaopmdpcjcooaaDoorQCheck
namespace Go.Proofs.YtgaopmdpcjcooaaDoor
open Go.RowKit
set_option linter.unusedVariables false
set_option linter.unusedSimpArgs false
theorem reqs_one {w : World} {b : Nat} {r : Rq} {u : Value} (h0 : w.cell? ⟨b, 0, none⟩ = some (.string (Ba r.1))) (h1 : w.cell? ⟨b, 1, none⟩ = some (.int .i64 r.2.1)) (h2 : w.cell? ⟨b, 2, none⟩ = some u) (hu : Strs w u r.2.2) (hb : b < w.heap.size) :
    Reqs w (.slice (some ⟨b, 0, none⟩) 1 1) [r] := by
  refine Or.inr ⟨b, 0, 1, rfl, Nat.le_refl _, by decide, hb, fun i r' hr => ?_⟩
  match i, hr with
  | 0, hr =>
    simp only [List.getElem?_cons_zero, Option.some.injEq] at hr
    subst hr
    exact ⟨h0, h1, u, h2, hu⟩
theorem reqs_new (w : World) (r : Rq) (u : Value) (hu : Strs w u r.2.2) : Reqs (w.alloc (.cells #[.string (Ba r.1), .int .i64 r.2.1, u] 33)) (.slice (some ⟨w.heap.size, 0, none⟩) 1 1) [r] := by
  obtain ⟨a, b, c⟩ := box3 (w := w) (a := .string (Ba r.1)) (b := .int .i64 r.2.1) (c := u) (t := 33) (Below.refl _ _)
  exact reqs_one a b c (hu.below ((Below.refl _ _).alloc (Nat.le_refl _) _)) (by simp)
theorem chk_strange : chkI [([], 0, [])] = 6 := by
  have h : kI [] = 6 := by decide
  unfold chkI
  rw [if_neg (by simp), firstE]
  have hp : partI ([], 0, []) = 6 := by
    unfold partI
    rw [if_pos (by simp [h]), h]
  rw [if_neg (by simp [hp]), hp]
set_option maxHeartbeats 1000000 in
theorem strange_any (w : World) (hR : Room w) : Calls Tryd.prog 6 #[] w fun e w' => e = .returned (.bool true) ∧ Below w.heap.size w w' := by
  have hb : Below w.heap.size w (w.alloc (.cells #[.string ⟨#[]⟩, .int .i64 0, .slice none 0 0] 33)) := (Below.refl _ _).alloc (Nat.le_refl _) _
  have HC : Hid (Calls Tryd.prog 7 #[.slice (some ⟨w.heap.size, 0, none⟩) 1 1] (w.alloc (.cells #[.string ⟨#[]⟩, .int .i64 0, .slice none 0 0] 33)) fun e w' => e = .returned (.int .i64 6) ∧ Below (w.alloc (.cells #[.string ⟨#[]⟩, .int .i64 0, .slice none 0 0] 33)).heap.size (w.alloc (.cells #[.string ⟨#[]⟩, .int .i64 0, .slice none 0 0] 33)) w') := by
    have h := chk_any (.slice (some ⟨w.heap.size, 0, none⟩) 1 1) [([], 0, [])] (w.alloc (.cells #[.string ⟨#[]⟩, .int .i64 0, .slice none 0 0] 33)) (reqs_new w ([], 0, []) (.slice none 0 0) (Or.inl ⟨rfl, _, _, rfl⟩)) (fun r hr => by
      simp only [List.mem_singleton] at hr
      subst hr
      exact ⟨Nat.zero_le _, fun v hv => by simp at hv⟩) (hR.below hb)
    rw [chk_strange] at h
    exact h
  have HB : Hid (Below w.heap.size w (w.alloc (.cells #[.string ⟨#[]⟩, .int .i64 0, .slice none 0 0] 33))) := hb
  clear hR hb
  go_enter Tryd.func6, Tryd.ntmps6
  go_wp2_with fail
  refine Calls.mono HC.out ?_
  rintro e w1 ⟨rfl, b⟩
  have HB1 : Hid (Below w.heap.size w w1) := HB.out.trans (b.mono HB.out.size)
  clear b
  go_wp2_with fail
  go_ret
  exact ⟨rfl, HB1.out⟩
end Go.Proofs.YtgaopmdpcjcooaaDoor
