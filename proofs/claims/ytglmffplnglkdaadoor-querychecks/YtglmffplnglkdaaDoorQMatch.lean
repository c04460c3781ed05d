/- Contracts over this translation: query.matches, query.Match. -/
import Derived.Test.YtglmffplnglkdaaDoorQIdxM
import Derived.Test.YtglmffplnglkdaaDoorQCheck
import Derived.Test.YtglmffplnglkdaaDoorQLabs
namespace Go.Proofs.YtglmffplnglkdaaDoor
open Go.RowKit
set_option linter.unusedVariables false
set_option linter.unusedSimpArgs false
theorem match_any_not (l : List Rq) (ls : List Lb) : (!l.any fun r => !holdsB r (stateB ls r.1)) = matchB l ls := by
  unfold matchB
  rw [List.any_eq_not_all_not]
  simp
set_option maxHeartbeats 1000000 in
theorem matches_any (v vl : Value) (l : List Rq) (ls : List Lb) (w : World) (hv : Reqs w v l) (hl : Labs w vl ls) :
    Calls Tryd.prog 23 #[v, vl] w fun e w' => e = .returned (.bool (matchB l ls)) ∧ Below w.heap.size w w' := by
  have hb0 : Below w.heap.size w (w.alloc (.cells #[vl] 23)) := (Below.refl _ _).alloc (Nat.le_refl _) _
  have HF : Hid (Calls Tryd.prog 35 #[v, .func (.func 36) #[] #[.pointer (some ⟨w.heap.size, 0, none⟩)]] (w.alloc (.cells #[vl] 23)) fun e w' => e = .returned (.bool (l.any fun r => !holdsB r (stateB ls r.1))) ∧ Below (w.alloc (.cells #[vl] 23)).heap.size (w.alloc (.cells #[vl] 23)) w') := by
    refine mt_containsFunc _ v l w.heap.size _ (hv.below hb0) fun w1 hb r _ u hu => ?_
    exact matchClos_any r u vl ls w.heap.size w1 hu ((hl.below hb0).below hb) (by have := hb.size; simp at this; omega) (box1 hb)
  have HB0 : Hid (Below w.heap.size w (w.alloc (.cells #[vl] 23))) := hb0
  obtain ⟨p, c, rfl, hn, hcell⟩ := hv.open
  obtain ⟨p2, c2, rfl, hn2, hcell2⟩ := hl.open
  clear hv hl hcell hcell2 hb0
  rw [← match_any_not]
  generalize (l.any fun r => !holdsB r (stateB ls r.1)) = res at *
  generalize l.length = nl at *
  generalize ls.length = nl2 at *
  go_enter Tryd.func23, Tryd.ntmps23
  go_wp2_with fail
  refine Calls.mono HF.out ?_
  rintro e w1 ⟨rfl, b⟩
  have HB : Hid (Below w.heap.size w w1) := HB0.out.trans (b.mono HB0.out.size)
  clear b
  go_wp2_with fail
  go_ret
  exact ⟨rfl, HB.out⟩
def FitL (ls : List Lb) : Prop := ∀ x ∈ ls, x.1.length ≤ maxLen ∧ x.2.length ≤ maxLen
set_option maxHeartbeats 1000000 in
theorem match_any (v vl : Value) (l : List Rq) (ls : List Lb) (w : World) (hv : Reqs w v l) (hf : ∀ r ∈ l, Fit r) (hl : Labs w vl ls) (hfl : FitL ls) (hR : Room w) :
    Calls Tryd.prog 8 #[v, vl] w fun e w' => e = .returned (.tuple #[.bool (matchE l ls).1, .int .i64 (matchE l ls).2]) ∧ Below w.heap.size w w' := by
  have HC : Hid (Calls Tryd.prog 12 #[v] w fun e w' => e = .returned (.int .i64 (chkI l)) ∧ Below w.heap.size w w') := chk_any v l w hv hf hR
  have HL : Hid (∀ w1, Below w.heap.size w w1 → Calls Tryd.prog 14 #[vl] w1 fun e w' => e = .returned (.int .i64 (labelsI ls)) ∧ Below w1.heap.size w1 w') := fun w1 hb => labels_any vl ls w1 (hl.below hb) hfl (hR.below hb)
  have HM : Hid (∀ w1, Below w.heap.size w w1 → Calls Tryd.prog 23 #[v, vl] w1 fun e w' => e = .returned (.bool (matchB l ls)) ∧ Below w1.heap.size w1 w') := fun w1 hb => matches_any v vl l ls w1 (hv.below hb) (hl.below hb)
  obtain ⟨p, c, rfl, hn, hcell⟩ := hv.open
  obtain ⟨p2, c2, rfl, hn2, hcell2⟩ := hl.open
  clear hv hl hcell hcell2 hf hfl hR
  by_cases h1 : chkI l = 0
  · have hn1 : (chkI l != 0) = false := by simp [h1]
    by_cases h2 : labelsI ls = 0
    · have hn3 : (labelsI ls != 0) = false := by simp [h2]
      rw [matchE_ok h1 h2]
      clear h1 h2
      generalize chkI l = ce at *
      generalize labelsI ls = le at *
      generalize matchB l ls = mb at *
      generalize l.length = nl at *
      generalize ls.length = nl2 at *
      go_enter Tryd.func8, Tryd.ntmps8
      go_wp2_with fail
      refine Calls.mono HC.out ?_
      rintro e w1 ⟨rfl, b⟩
      have HB : Hid (Below w.heap.size w w1) := b
      clear b
      go_wp2_with fail
      refine Calls.mono (HL.out _ HB.out) ?_
      rintro e w2 ⟨rfl, b⟩
      have HB2 : Hid (Below w.heap.size w w2) := HB.out.trans (b.mono HB.out.size)
      clear b
      go_wp2_with fail
      refine Calls.mono (HM.out _ HB2.out) ?_
      rintro e w3 ⟨rfl, b⟩
      have HB3 : Hid (Below w.heap.size w w3) := HB2.out.trans (b.mono HB2.out.size)
      clear b
      go_wp2_with fail
      go_ret2
      exact ⟨rfl, HB3.out⟩
    · have hn3 : (labelsI ls != 0) = true := by simpa using h2
      rw [matchE_labs h1 h2]
      clear h1 h2 HM
      generalize chkI l = ce at *
      generalize labelsI ls = le at *
      generalize l.length = nl at *
      generalize ls.length = nl2 at *
      go_enter Tryd.func8, Tryd.ntmps8
      go_wp2_with fail
      refine Calls.mono HC.out ?_
      rintro e w1 ⟨rfl, b⟩
      have HB : Hid (Below w.heap.size w w1) := b
      clear b
      go_wp2_with fail
      refine Calls.mono (HL.out _ HB.out) ?_
      rintro e w2 ⟨rfl, b⟩
      have HB2 : Hid (Below w.heap.size w w2) := HB.out.trans (b.mono HB.out.size)
      clear b
      go_wp2_with fail
      go_ret2
      exact ⟨rfl, HB2.out⟩
  · have hn1 : (chkI l != 0) = true := by simpa using h1
    rw [matchE_chk h1]
    clear h1 HM HL
    generalize chkI l = ce at *
    generalize l.length = nl at *
    generalize ls.length = nl2 at *
    go_enter Tryd.func8, Tryd.ntmps8
    go_wp2_with fail
    refine Calls.mono HC.out ?_
    rintro e w1 ⟨rfl, b⟩
    have HB : Hid (Below w.heap.size w w1) := b
    clear b
    go_wp2_with fail
    go_ret2
    exact ⟨rfl, HB.out⟩
end Go.Proofs.YtglmffplnglkdaaDoor
