/- Contracts over this translation: grants.CheckAsk, hasOrAll, allowsName, allows, Allows. -/
import Derived.Test.YtnjjlnhchfoigabDoorGrRules
namespace Go.Proofs.YtnjjlnhchfoigabDoor
open Go.RowKit
set_option linter.unusedVariables false
set_option linter.unusedSimpArgs false
theorem bx4 {w w1 : World} {a b c d : Value} {t : TypeId} (h : Below (w.alloc (.cells #[a, b, c, d] t)).heap.size (w.alloc (.cells #[a, b, c, d] t)) w1) :
    w1.cell? ⟨w.heap.size, 0, none⟩ = some a ∧ w1.cell? ⟨w.heap.size, 1, none⟩ = some b ∧ w1.cell? ⟨w.heap.size, 2, none⟩ = some c ∧ w1.cell? ⟨w.heap.size, 3, none⟩ = some d := by
  have hs : w.heap.size < (w.alloc (.cells #[a, b, c, d] t)).heap.size := by simp
  refine ⟨?_, ?_, ?_, ?_⟩
  all_goals (rw [h.cell (p := ⟨w.heap.size, _, none⟩) hs, World.cell?_alloc_at _ _ _ _ rfl]; rfl)
/-- is all that is asked short enough to lie in memory? -/
def FitA (a : Ak) : Prop := a.1.length ≤ maxLen ∧ a.2.1.length ≤ maxLen ∧ a.2.2.1.length ≤ maxLen ∧ a.2.2.2.length ≤ maxLen
/-- what is asked, as a value -/
def askV (a : Ak) : Value := .agg #[.string (Ba a.1), .string (Ba a.2.1), .string (Ba a.2.2.1), .string (Ba a.2.2.2)]
theorem strs_two {w w1 : World} {s t : Bs} {ty : TypeId} (h : Below (w.alloc (.cells #[.string (Ba s), .string (Ba t)] ty)).heap.size (w.alloc (.cells #[.string (Ba s), .string (Ba t)] ty)) w1) :
    Strs w1 (.slice (some ⟨w.heap.size, 0, none⟩) 2 2) [s, t] := by
  obtain ⟨h0, h1⟩ := box2 h
  refine Or.inr ⟨w.heap.size, 0, 2, rfl, Nat.le_refl _, by unfold maxLen; omega, by have := h.size; simp at this; omega, fun i x hx => ?_⟩
  match i, hx with
  | 0, hx => simp at hx; subst hx; exact h0
  | 1, hx => simp at hx; subst hx; exact h1
theorem ask_e1 {a : Ak} (h : firstE cI [a.1, a.2.1] ≠ 0) : askI a = firstE cI [a.1, a.2.1] := orE_l h
theorem ask_e2 {a : Ak} (h : firstE cI [a.1, a.2.1] = 0) (g : ifI a.2.2.1 ≠ 0) : askI a = ifI a.2.2.1 := by unfold askI; rw [orE_r h, orE_l g]
theorem ask_e3 {a : Ak} (h : firstE cI [a.1, a.2.1] = 0) (g : ifI a.2.2.1 = 0) : askI a = ifI a.2.2.2 := by unfold askI; rw [orE_r h, orE_r g]
set_option maxRecDepth 100000 in
set_option maxHeartbeats 4000000 in
theorem ask_any (a : Ak) (w : World) (hf : FitA a) : Calls Tryd.prog 23 #[askV a] w fun e w' => e = .returned (.int .i64 (askI a)) ∧ Below w.heap.size w w' := by
  have HE1 : Hid (firstE cI [a.1, a.2.1] ≠ 0 → askI a = firstE cI [a.1, a.2.1]) := ask_e1
  have HE2 : Hid (firstE cI [a.1, a.2.1] = 0 → ifI a.2.2.1 ≠ 0 → askI a = ifI a.2.2.1) := ask_e2
  have HE3 : Hid (firstE cI [a.1, a.2.1] = 0 → ifI a.2.2.1 = 0 → askI a = ifI a.2.2.2) := ask_e3
  obtain ⟨vb, kd, sp, nm⟩ := a
  dsimp only [askV] at *
  have HI3 : Hid (∀ w1, Calls Tryd.prog 37 #[.string (Ba sp)] w1 fun e w' => e = .returned (.int .i64 (ifI sp)) ∧ w' = w1) := fun w1 => if_any sp w1 hf.2.2.1
  have HI4 : Hid (∀ w1, Calls Tryd.prog 37 #[.string (Ba nm)] w1 fun e w' => e = .returned (.int .i64 (ifI nm)) ∧ w' = w1) := fun w1 => if_any nm w1 hf.2.2.2
  obtain ⟨w0, hw0⟩ : ∃ w0, w0 = w.alloc (.cells #[.string (Ba vb), .string (Ba kd), .string (Ba sp), .string (Ba nm)] 31) := ⟨_, rfl⟩
  obtain ⟨w2, hw2⟩ : ∃ w2, w2 = w0.alloc (.cells #[.string (Ba vb), .string (Ba kd)] 9) := ⟨_, rfl⟩
  have HW0 : Hid (w0 = w.alloc (.cells #[.string (Ba vb), .string (Ba kd), .string (Ba sp), .string (Ba nm)] 31)) := hw0
  have HW2 : Hid (w2 = w0.alloc (.cells #[.string (Ba vb), .string (Ba kd)] 9)) := hw2
  have hB2 : Below w0.heap.size w0 w2 := by rw [hw2]; exact (Below.refl _ _).alloc (Nat.le_refl _) _
  have hB0 : Below w.heap.size w w0 := by rw [hw0]; exact (Below.refl _ _).alloc (Nat.le_refl _) _
  have hs0 : w0.heap.size = w.heap.size + 1 := by rw [hw0]; simp
  have HB : Hid (Below w.heap.size w w2) := hB0.trans (hB2.mono hB0.size)
  have HS0 : Hid (w0.heap.size = w.heap.size + 1) := hs0
  have HNm : Hid (Calls Tryd.prog 43 #[.slice (some ⟨w0.heap.size, 0, none⟩) 2 2] w2 fun e w' => e = .returned (.int .i64 (firstE cI [vb, kd])) ∧ w' = w2) :=
    names_any _ [vb, kd] w2 (by rw [hw2]; exact strs_two (Below.refl _ _)) (fun s hs => by
      simp only [List.mem_cons, List.not_mem_nil, or_false] at hs
      rcases hs with rfl | rfl
      · exact hf.1
      · exact hf.2.1)
  have hx : w2.cell? ⟨w.heap.size, 0, none⟩ = some (.string (Ba vb)) ∧ w2.cell? ⟨w.heap.size, 1, none⟩ = some (.string (Ba kd)) ∧ w2.cell? ⟨w.heap.size, 2, none⟩ = some (.string (Ba sp)) ∧ w2.cell? ⟨w.heap.size, 3, none⟩ = some (.string (Ba nm)) := by
    rw [hw0] at hB2
    exact bx4 hB2
  have HX : Hid (_) := hx
  clear hf hw0 hw2 hB0 hB2 hs0 hx
  generalize askI (vb, kd, sp, nm) = res at *
  generalize firstE cI [vb, kd] = e1 at *
  generalize ifI sp = e2 at *
  generalize ifI nm = e3 at *
  generalize Ba vb = y1 at *
  generalize Ba kd = y2 at *
  generalize Ba sp = y3 at *
  generalize Ba nm = y4 at *
  by_cases h1 : e1 = 0
  · have b1 : (e1 != 0) = false := by simp [h1]
    by_cases h2 : e2 = 0
    · have b2 : (e2 != 0) = false := by simp [h2]
      have HR : Hid (res = e3) := HE3.out h1 h2
      clear HE1 HE2 HE3 h1 h2
      go_enter Tryd.func23, Tryd.ntmps23
      go_wp2_with fail
      rw [← HW0.out, ← HS0.out, ← HW2.out]
      refine Calls.mono HNm.out ?_
      rintro e w1 ⟨rfl, hw1⟩
      obtain rfl : w2 = w1 := hw1.symm
      obtain ⟨x0, x1, x2, x3⟩ := HX.out
      go_wp2_with fail
      refine Calls.mono (HI3.out _) ?_
      rintro e w1 ⟨rfl, hw1⟩
      obtain rfl : w2 = w1 := hw1.symm
      go_wp2_with fail
      refine Calls.mono (HI4.out _) ?_
      rintro e w1 ⟨rfl, hw1⟩
      obtain rfl : w2 = w1 := hw1.symm
      go_wp2_with fail
      go_ret
      exact ⟨by rw [HR.out]; rfl, HB.out⟩
    · have b2 : (e2 != 0) = true := by simpa using h2
      have HR : Hid (res = e2) := HE2.out h1 h2
      clear HE1 HE2 HE3 h1 h2
      go_enter Tryd.func23, Tryd.ntmps23
      go_wp2_with fail
      rw [← HW0.out, ← HS0.out, ← HW2.out]
      refine Calls.mono HNm.out ?_
      rintro e w1 ⟨rfl, hw1⟩
      obtain rfl : w2 = w1 := hw1.symm
      obtain ⟨x0, x1, x2, x3⟩ := HX.out
      go_wp2_with fail
      refine Calls.mono (HI3.out _) ?_
      rintro e w1 ⟨rfl, hw1⟩
      obtain rfl : w2 = w1 := hw1.symm
      go_wp2_with fail
      go_ret
      exact ⟨by rw [HR.out]; rfl, HB.out⟩
  · have b1 : (e1 != 0) = true := by simpa using h1
    have HR : Hid (res = e1) := HE1.out h1
    clear HE1 HE2 HE3 h1
    go_enter Tryd.func23, Tryd.ntmps23
    go_wp2_with fail
    rw [← HW0.out, ← HS0.out, ← HW2.out]
    refine Calls.mono HNm.out ?_
    rintro e w1 ⟨rfl, hw1⟩
    obtain rfl : w2 = w1 := hw1.symm
    go_wp2_with fail
    go_ret
    exact ⟨by rw [HR.out]; rfl, HB.out⟩
set_option maxHeartbeats 1000000 in
theorem hasOr_any (v : Value) (l : List Bs) (s : Bs) (w : World) (hv : Strs w v l) : Calls Tryd.prog 44 #[v, .string (Ba s)] w fun e w' => e = .returned (.bool (hasB l s)) ∧ w' = w := by
  have H1 : Hid (Calls Tryd.prog 54 #[v, .string (Ba s)] w fun e w' => e = .returned (.bool (decide (s ∈ l))) ∧ w' = w) := contains_of v l s w hv
  have H2 : Hid (Calls Tryd.prog 54 #[v, .string { data := #[42] }] w fun e w' => e = .returned (.bool (decide (([42] : Bs) ∈ l))) ∧ w' = w) := contains_of v l [42] w hv
  obtain ⟨p, c, rfl, hn⟩ := hv.form
  have HX : Hid (hasB l s = (decide (s ∈ l) || decide (([42] : Bs) ∈ l))) := rfl
  clear hv
  generalize hasB l s = res at *
  generalize decide (s ∈ l) = b1 at *
  generalize decide (([42] : Bs) ∈ l) = b2 at *
  generalize Ba s = y at *
  cases b1 with
  | true =>
    go_enter Tryd.func44, Tryd.ntmps44
    go_wp2_with fail
    refine Calls.mono H1.out ?_
    rintro e w1 ⟨rfl, rfl⟩
    go_wp2_with fail
    go_ret
    exact ⟨by rw [HX.out]; rfl, rfl⟩
  | false =>
    go_enter Tryd.func44, Tryd.ntmps44
    go_wp2_with fail
    refine Calls.mono H1.out ?_
    rintro e w1 ⟨rfl, rfl⟩
    go_wp2_with fail
    refine Calls.mono H2.out ?_
    rintro e w1 ⟨rfl, rfl⟩
    go_wp2_with fail
    go_ret
    exact ⟨by rw [HX.out]; rfl, rfl⟩
set_option maxHeartbeats 1000000 in
theorem nameOk_any (v : Value) (l : List Bs) (s : Bs) (w : World) (hv : Strs w v l) : Calls Tryd.prog 45 #[v, .string (Ba s)] w fun e w' => e = .returned (.bool (nameOkB l s)) ∧ w' = w := by
  have H1 : Hid (Calls Tryd.prog 54 #[v, .string (Ba s)] w fun e w' => e = .returned (.bool (decide (s ∈ l))) ∧ w' = w) := contains_of v l s w hv
  obtain ⟨p, c, rfl, hn⟩ := hv.form
  have HX : Hid (nameOkB l s = (decide (l.length = 0) || (!decide (s = []) && decide (s ∈ l)))) := rfl
  have hq : ((Ba s).toList == []) = decide (s = []) := ba_is s []
  clear hv
  generalize nameOkB l s = res at *
  generalize decide (s ∈ l) = b1 at *
  generalize decide (s = []) = b2 at *
  generalize Ba s = y at *
  generalize l.length = n at *
  unfold maxLen at hn
  by_cases h0 : n = 0
  · rw [decide_eq_true h0] at HX
    have z : ((n : Int) == 0) = true := by simp; omega
    clear h0
    go_enter Tryd.func45, Tryd.ntmps45
    go_wp2_with fail
    go_ret
    exact ⟨by rw [HX.out]; rfl, rfl⟩
  · rw [decide_eq_false h0] at HX
    have z : ((n : Int) == 0) = false := by simp; omega
    clear h0
    cases b2 with
    | true =>
      have hq2 : y.toList.isEmpty = true := by rw [List.isEmpty_iff]; exact eq_of_beq hq
      clear hq
      go_enter Tryd.func45, Tryd.ntmps45
      go_wp2_with fail
      go_ret
      exact ⟨by rw [HX.out]; rfl, rfl⟩
    | false =>
      have hq2 : y.toList.isEmpty = false := by
        cases hy : y.toList.isEmpty with
        | false => rfl
        | true => rw [List.isEmpty_iff.1 hy] at hq; cases hq
      clear hq
      go_enter Tryd.func45, Tryd.ntmps45
      go_wp2_with fail
      refine Calls.mono H1.out ?_
      rintro e w1 ⟨rfl, rfl⟩
      go_wp2_with fail
      go_ret
      exact ⟨by rw [HX.out]; rfl, rfl⟩
end Go.Proofs.YtnjjlnhchfoigabDoor
