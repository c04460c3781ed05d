/- Contract over this translation: the document's QueryMatch. -/
import Derived.Test.YtglmffplnglkdaaDoorQRefFits
import Derived.Test.YtglmffplnglkdaaDoorQMatch
namespace Go.Proofs.YtglmffplnglkdaaDoor
open Go.RowKit
set_option linter.unusedVariables false
set_option linter.unusedSimpArgs false
set_option maxHeartbeats 1000000 in
theorem matchR_any (v vl : Value) (l : List Rq) (ls : List Lb) (w : World) (hv : Reqs w v l) (hf : ∀ r ∈ l, Fit r) (hl : Labs w vl ls) (hfl : FitL ls) (hR : Room w) :
    Calls Tryd.prog 9 #[v, vl] w fun e w' => e = .returned (.tuple #[.bool (matchE l ls).1, .int .i64 (matchE l ls).2]) ∧ Below w.heap.size w w' := by
  have HC : Hid (Calls Tryd.prog 13 #[v] w fun e w' => e = .returned (.int .i64 (chkI l)) ∧ Below w.heap.size w w') := qcheckR_any v l w hv hf hR
  have HL : Hid (∀ w1, Below w.heap.size w w1 → Calls Tryd.prog 15 #[vl] w1 fun e w' => e = .returned (.int .i64 (labelsI ls)) ∧ Below w1.heap.size w1 w') := fun w1 hb => qlabelsR_any vl ls w1 (hl.below hb) hfl (hR.below hb)
  have HM : Hid (chkI l = 0 → labelsI ls = 0 → ∀ w1, Below w.heap.size w w1 → Calls Tryd.prog 24 #[v, vl] w1 fun e w' => e = .returned (.bool (matchB l ls)) ∧ Below w1.heap.size w1 w') := fun g1 g2 w1 hb => fitsR_any v vl l ls w1 (hv.below hb) (hl.below hb) (fun r hr => fits_kind (part_ok.1 ((chk_ok.1 g1).2 r hr)).2.1) (labels_apart g2)
  obtain ⟨p, c, rfl, hn, hcell⟩ := hv.open
  obtain ⟨p2, c2, rfl, hn2, hcell2⟩ := hl.open
  clear hv hl hcell hcell2 hf hfl hR
  by_cases h1 : chkI l = 0
  · have hn1 : (chkI l != 0) = false := by simp [h1]
    by_cases h2 : labelsI ls = 0
    · have hn3 : (labelsI ls != 0) = false := by simp [h2]
      have HM2 : Hid (∀ w1, Below w.heap.size w w1 → Calls Tryd.prog 24 #[.slice p l.length c, .slice p2 ls.length c2] w1 fun e w' => e = .returned (.bool (matchB l ls)) ∧ Below w1.heap.size w1 w') := HM.out h1 h2
      rw [matchE_ok h1 h2]
      clear h1 h2 HM
      generalize chkI l = ce at *
      generalize labelsI ls = le at *
      generalize matchB l ls = mb at *
      generalize l.length = nl at *
      generalize ls.length = nl2 at *
      go_enter Tryd.func9, Tryd.ntmps9
      go_wp2_with fail
      refine Calls.mono HC.out ?_
      rintro e w1 ⟨rfl, b⟩
      have HB : Hid (Below w.heap.size w w1) := b
      clear b
      go_wp2_with fail
      refine Calls.mono (HL.out _ HB.out) ?_
      rintro e w2 ⟨rfl, b⟩
      have HB2 : Hid (Below w.heap.size w w2) := HB.out.trans (b.mono HB.out.size)
      clear b
      go_wp2_with fail
      refine Calls.mono (HM2.out _ HB2.out) ?_
      rintro e w3 ⟨rfl, b⟩
      have HB3 : Hid (Below w.heap.size w w3) := HB2.out.trans (b.mono HB2.out.size)
      clear b
      go_wp2_with fail
      go_ret2
      exact ⟨rfl, HB3.out⟩
    · have hn3 : (labelsI ls != 0) = true := by simpa using h2
      rw [matchE_labs h1 h2]
      clear h1 h2 HM
      generalize chkI l = ce at *
      generalize labelsI ls = le at *
      generalize l.length = nl at *
      generalize ls.length = nl2 at *
      go_enter Tryd.func9, Tryd.ntmps9
      go_wp2_with fail
      refine Calls.mono HC.out ?_
      rintro e w1 ⟨rfl, b⟩
      have HB : Hid (Below w.heap.size w w1) := b
      clear b
      go_wp2_with fail
      refine Calls.mono (HL.out _ HB.out) ?_
      rintro e w2 ⟨rfl, b⟩
      have HB2 : Hid (Below w.heap.size w w2) := HB.out.trans (b.mono HB.out.size)
      clear b
      go_wp2_with fail
      go_ret2
      exact ⟨rfl, HB2.out⟩
  · have hn1 : (chkI l != 0) = true := by simpa using h1
    rw [matchE_chk h1]
    clear h1 HM HL
    generalize chkI l = ce at *
    generalize l.length = nl at *
    generalize ls.length = nl2 at *
    go_enter Tryd.func9, Tryd.ntmps9
    go_wp2_with fail
    refine Calls.mono HC.out ?_
    rintro e w1 ⟨rfl, b⟩
    have HB : Hid (Below w.heap.size w w1) := b
    clear b
    go_wp2_with fail
    go_ret2
    exact ⟨rfl, HB.out⟩
end Go.Proofs.YtglmffplnglkdaaDoor
