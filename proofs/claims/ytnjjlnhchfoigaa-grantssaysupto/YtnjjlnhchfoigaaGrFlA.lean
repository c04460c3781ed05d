/- Contract over this translation: the document's GrantsAsk. -/
import Derived.Test.YtnjjlnhchfoigaaGrFlN
import Derived.Test.YtnjjlnhchfoigaaGrAllow
namespace Go.Proofs.Ytnjjlnhchfoigaa
open Go.RowKit
set_option linter.unusedVariables false
set_option linter.unusedSimpArgs false
theorem ask_chainE (a : Ak) : orE (orE (orE (cI a.1) (cI a.2.1)) (ifI a.2.2.1)) (ifI a.2.2.2) = askI a := by
  unfold askI
  have : firstE cI [a.1, a.2.1] = orE (cI a.1) (cI a.2.1) := by
    show (if cI a.1 = 0 then (if cI a.2.1 = 0 then 0 else cI a.2.1) else cI a.1) = orE (cI a.1) (cI a.2.1)
    unfold orE
    by_cases h : cI a.1 = 0
    · rw [if_pos h, if_pos h]; split <;> simp_all
    · rw [if_neg h, if_neg h]
  rw [this]
  simp only [orE_assoc]
set_option maxRecDepth 100000 in
set_option maxHeartbeats 4000000 in
theorem askR_any (a : Ak) (w : World) (hf : FitA a) : Calls Try.prog 10 #[askV a] w fun e w' => e = .returned (.int .i64 (askI a)) ∧ Below w.heap.size w w' := by
  have HE : Hid (orE (orE (orE (cI a.1) (cI a.2.1)) (ifI a.2.2.1)) (ifI a.2.2.2) = askI a) := ask_chainE a
  obtain ⟨vb, kd, sp, nm⟩ := a
  dsimp only [askV] at *
  obtain ⟨w0, hw0⟩ : ∃ w0, w0 = (w.alloc (.cells #[.string (Ba vb), .string (Ba kd), .string (Ba sp), .string (Ba nm)] 27)).alloc (.cells #[.slice none 0 0] 58) := ⟨_, rfl⟩
  have hs0 : (w.alloc (.cells #[.string (Ba vb), .string (Ba kd), .string (Ba sp), .string (Ba nm)] 27)).heap.size = w.heap.size + 1 := by simp
  have hB1 : Below w.heap.size w (w.alloc (.cells #[.string (Ba vb), .string (Ba kd), .string (Ba sp), .string (Ba nm)] 27)) := (Below.refl _ _).alloc (Nat.le_refl _) _
  have hB0 : Below w.heap.size w w0 := by rw [hw0]; exact hB1.alloc hB1.size _
  have hfl0 : FlAt w.heap.size w0 (w.heap.size + 1) 0 0 (fun k => k = w.heap.size) := by
    refine ⟨by omega, .slice none 0 0, [], ?_, World.ownsRow_nil _ _ _ _, (fun e => by cases e), Nat.le_refl _, rfl, (fun x hx => by simp at hx), fun k hk => ?_⟩
    · rw [hw0, ← hs0]; exact heap_alloc_new _ _
    · subst hk
      exact ⟨by rw [hw0]; simp; omega, by omega, fun e => by cases e⟩
  have HBg : Hid (∀ w1, Kp w.heap.size (fun k => k = w.heap.size) w0 w1 → w1.cell? ⟨w.heap.size, 0, none⟩ = some (.string (Ba vb)) ∧ w1.cell? ⟨w.heap.size, 1, none⟩ = some (.string (Ba kd)) ∧ w1.cell? ⟨w.heap.size, 2, none⟩ = some (.string (Ba sp)) ∧ w1.cell? ⟨w.heap.size, 3, none⟩ = some (.string (Ba nm))) := fun w1 h => by
    have q0 : w0.heap[w.heap.size]? = some (.cells #[.string (Ba vb), .string (Ba kd), .string (Ba sp), .string (Ba nm)] 27 (0, 0)) := by
      rw [hw0]
      exact (Below.heap_alloc _ _ _ (by rw [hs0]; omega)).trans (heap_alloc_new w _)
    have q := (h.kept w.heap.size rfl (by rw [hw0]; simp; omega)).trans q0
    refine ⟨?_, ?_, ?_, ?_⟩
    all_goals (rw [cell_of_row _ _ _ _ _ _ q]; rfl)
  have HB0 : Hid (Below w.heap.size w w0) := hB0
  have HF0 : Hid (FlAt w.heap.size w0 (w.heap.size + 1) 0 0 (fun k => k = w.heap.size)) := hfl0
  have HW0 : Hid (w0 = (w.alloc (.cells #[.string (Ba vb), .string (Ba kd), .string (Ba sp), .string (Ba nm)] 27)).alloc (.cells #[.slice none 0 0] 58)) := hw0
  have HSa : Hid (∀ w1 e' m av x, FlAt w.heap.size w1 (w.heap.size + 1) e' m av → m ≤ 10000000000000 → Calls Try.prog 26 #[.pointer (some ⟨w.heap.size + 1, 0, none⟩), .int .i64 x] w1 fun r w' => r = .returned (.tuple #[]) ∧ FlAt w.heap.size w' (w.heap.size + 1) (orE e' x) (m + 1) av ∧ Kp w.heap.size av w1 w') := fun w1 e' m av x h hm => says_any _ _ e' x m av w1 h hm
  have HSp : Hid (∀ w1 e' m av s, s.length ≤ maxLen → FlAt w.heap.size w1 (w.heap.size + 1) e' m av → m ≤ 10000000000000 → Calls Try.prog 25 #[.pointer (some ⟨w.heap.size + 1, 0, none⟩), .string (Ba s)] w1 fun r w' => r = .returned (.tuple #[]) ∧ FlAt w.heap.size w' (w.heap.size + 1) (orE e' (ifI s)) (m + 1) av ∧ Kp w.heap.size av w1 w') := fun w1 e' m av s hs h hm => space_any _ _ e' m av s w1 h hm hs
  have HNm : Hid (∀ s w1, s.length ≤ maxLen → Calls Try.prog 27 #[.string (Ba s)] w1 fun e w' => e = .returned (.int .i64 (cI s)) ∧ w' = w1) := fun s w1 hs => nR_any s w1 hs
  have HFi : Hid (∀ w1 e' m av, FlAt w.heap.size w1 (w.heap.size + 1) e' m av → ∃ v, w1.cell? ⟨w.heap.size + 1, 0, none⟩ = some v ∧ Calls Try.prog 30 #[v] w1 fun r w' => r = .returned (.int .i64 e') ∧ w' = w1) := fun w1 e' m av h => first_any _ _ e' m av w1 h
  have HFt : Hid (FitA (vb, kd, sp, nm)) := hf
  clear hf hw0 hs0 hB1 hB0 hfl0
  generalize askI (vb, kd, sp, nm) = res at *
  go_enter Try.func10, Try.ntmps10
  go_wp2_with fail
  rw [← HW0.out]
  refine Calls.mono (HNm.out vb _ HFt.out.1) ?_
  rintro r wc ⟨rfl, hwc⟩
  obtain rfl : w0 = wc := hwc.symm
  go_wp2_with fail
  refine Calls.mono (HSa.out _ _ _ _ _ HF0.out (by omega)) ?_
  rintro r w1 ⟨rfl, h1, h2⟩
  have HF1 : Hid (FlAt w.heap.size w1 (w.heap.size + 1) (cI vb) 1 (fun k => k = w.heap.size)) := by
    show FlAt _ _ _ _ _ _
    have e : orE 0 (cI vb) = cI vb := orE_r rfl
    rw [e] at h1; exact h1
  have HK1 : Hid (Kp w.heap.size (fun k => k = w.heap.size) w0 w1) := h2
  obtain ⟨z0, z1, z2, z3⟩ := HBg.out w1 h2
  clear h1 h2
  go_wp2_with fail
  refine Calls.mono (HNm.out kd _ HFt.out.2.1) ?_
  rintro r wc ⟨rfl, hwc⟩
  obtain rfl : w1 = wc := hwc.symm
  go_wp2_with fail
  refine Calls.mono (HSa.out _ _ _ _ _ HF1.out (by omega)) ?_
  rintro r w2 ⟨rfl, h1, h2⟩
  have HF2 : Hid (_) := h1
  have HK2 : Hid (Kp w.heap.size (fun k => k = w.heap.size) w0 w2) := HK1.out.trans h2
  clear h1 h2 z0 z1 z2 z3
  obtain ⟨z0, z1, z2, z3⟩ := HBg.out w2 HK2.out
  go_wp2_with fail
  refine Calls.mono (HSp.out _ _ _ _ sp HFt.out.2.2.1 HF2.out (by omega)) ?_
  rintro r w3 ⟨rfl, h1, h2⟩
  have HF3 : Hid (_) := h1
  have HK3 : Hid (Kp w.heap.size (fun k => k = w.heap.size) w0 w3) := HK2.out.trans h2
  clear h1 h2 z0 z1 z2 z3
  obtain ⟨z0, z1, z2, z3⟩ := HBg.out w3 HK3.out
  go_wp2_with fail
  refine Calls.mono (HSp.out _ _ _ _ nm HFt.out.2.2.2 HF3.out (by omega)) ?_
  rintro r w4 ⟨rfl, h1, h2⟩
  have HF4 : Hid (FlAt w.heap.size w4 (w.heap.size + 1) res 4 (fun k => k = w.heap.size)) := by
    show FlAt _ _ _ _ _ _
    rw [← HE.out]; exact h1
  have HK4 : Hid (Kp w.heap.size (fun k => k = w.heap.size) w0 w4) := HK3.out.trans h2
  have HBz : Hid (Below w.heap.size w w4) := HB0.out.trans HK4.out.bel
  clear h1 h2 z0 z1 z2 z3
  obtain ⟨vf, hvf, hcf⟩ := HFi.out w4 _ _ _ HF4.out
  have HCf : Hid (_) := hcf
  clear hcf
  go_wp2_with fail
  refine Calls.mono HCf.out ?_
  rintro r wz ⟨rfl, hwz⟩
  obtain rfl : w4 = wz := hwz.symm
  go_wp2_with fail
  go_ret
  exact ⟨rfl, HBz.out⟩
end Go.Proofs.Ytnjjlnhchfoigaa
