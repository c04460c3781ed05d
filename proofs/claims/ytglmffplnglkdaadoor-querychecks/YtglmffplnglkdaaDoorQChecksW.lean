/- The walk of the law QueryChecks over this translation. -/
import Derived.Test.YtglmffplnglkdaaDoorQPrintR
import Derived.Test.YtglmffplnglkdaaDoorQRefMatch
import Derived.RegionTactic
namespace Go.Proofs.YtglmffplnglkdaaDoor
open Go.RowKit
set_option linter.unusedVariables false
set_option linter.unusedSimpArgs false
theorem ba_self (a : ByteArray) : (a.toList == a.toList) = true := by simp
set_option maxRecDepth 100000 in
set_option maxHeartbeats 4000000 in
theorem checks_walk (v vl : Value) (l : List Rq) (ls : List Lb) (w : World) (hv : Reqs w v l) (hf : ∀ r ∈ l, Fit r) (hl : Labs w vl ls) (hfl : FitL ls) (hR : Room w) :
    Calls Tryd.prog 3 #[v, vl] w fun e w' => e = .returned (.bool true) ∧ Below w.heap.size w w' := by
  have H1 : Hid (∀ w1, Below w.heap.size w w1 → Calls Tryd.prog 8 #[v, vl] w1 fun e w' => e = .returned (.tuple #[.bool (matchE l ls).1, .int .i64 (matchE l ls).2]) ∧ Below w1.heap.size w1 w') := fun w1 hb => match_any v vl l ls w1 (hv.below hb) hf (hl.below hb) hfl (hR.below hb)
  have H2 : Hid (∀ w1, Below w.heap.size w w1 → Calls Tryd.prog 9 #[v, vl] w1 fun e w' => e = .returned (.tuple #[.bool (matchE l ls).1, .int .i64 (matchE l ls).2]) ∧ Below w1.heap.size w1 w') := fun w1 hb => matchR_any v vl l ls w1 (hv.below hb) hf (hl.below hb) hfl (hR.below hb)
  have H3 : Hid (∀ w1, Below w.heap.size w w1 → Calls Tryd.prog 10 #[v] w1 fun e w' => e = .returned (.tuple #[.string (Ba (printE l).1), .int .i64 (printE l).2]) ∧ Below w1.heap.size w1 w') := fun w1 hb => print_any v l w1 (hv.below hb) hf (hR.below hb)
  have H4 : Hid (∀ w1, Below w.heap.size w w1 → Calls Tryd.prog 11 #[v] w1 fun e w' => e = .returned (.tuple #[.string (Ba (printE l).1), .int .i64 (printE l).2]) ∧ Below w1.heap.size w1 w') := fun w1 hb => printR_any v l w1 (hv.below hb) hf (hR.below hb)
  have H5 : Hid (∀ w1, Below w.heap.size w w1 → Calls Tryd.prog 12 #[v] w1 fun e w' => e = .returned (.int .i64 (chkI l)) ∧ Below w1.heap.size w1 w') := fun w1 hb => chk_any v l w1 (hv.below hb) hf (hR.below hb)
  have H6 : Hid (∀ w1, Below w.heap.size w w1 → Calls Tryd.prog 13 #[v] w1 fun e w' => e = .returned (.int .i64 (chkI l)) ∧ Below w1.heap.size w1 w') := fun w1 hb => qcheckR_any v l w1 (hv.below hb) hf (hR.below hb)
  have H7 : Hid (∀ w1, Below w.heap.size w w1 → Calls Tryd.prog 14 #[vl] w1 fun e w' => e = .returned (.int .i64 (labelsI ls)) ∧ Below w1.heap.size w1 w') := fun w1 hb => labels_any vl ls w1 (hl.below hb) hfl (hR.below hb)
  have H8 : Hid (∀ w1, Below w.heap.size w w1 → Calls Tryd.prog 15 #[vl] w1 fun e w' => e = .returned (.int .i64 (labelsI ls)) ∧ Below w1.heap.size w1 w') := fun w1 hb => qlabelsR_any vl ls w1 (hl.below hb) hfl (hR.below hb)
  obtain ⟨p, c, rfl, hn, hcell⟩ := hv.open
  obtain ⟨p2, c2, rfl, hn2, hcell2⟩ := hl.open
  have hself := ba_self (Ba (printE l).1)
  clear hv hl hcell hcell2 hf hfl hR
  generalize (matchE l ls).1 = m1 at *
  generalize (matchE l ls).2 = m2 at *
  generalize Ba (printE l).1 = s1 at *
  generalize (printE l).2 = s2 at *
  generalize chkI l = k1 at *
  generalize labelsI ls = k2 at *
  generalize l.length = nl at *
  generalize ls.length = nl2 at *
  go_enter Tryd.func3, Tryd.ntmps3
  go_wp2_with fail
  refine Calls.mono (H1.out _ (Below.refl _ _)) ?_
  rintro e w1 ⟨rfl, b⟩
  have HB1 : Hid (Below w.heap.size w w1) := b
  clear b
  go_wp2_with fail
  refine Calls.mono (H2.out _ HB1.out) ?_
  rintro e w2 ⟨rfl, b⟩
  have HB2 : Hid (Below w.heap.size w w2) := HB1.out.trans (b.mono HB1.out.size)
  clear b
  go_wp2_with fail
  refine Calls.mono (H3.out _ HB2.out) ?_
  rintro e w3 ⟨rfl, b⟩
  have HB3 : Hid (Below w.heap.size w w3) := HB2.out.trans (b.mono HB2.out.size)
  clear b
  go_wp2_with fail
  refine Calls.mono (H4.out _ HB3.out) ?_
  rintro e w4 ⟨rfl, b⟩
  have HB4 : Hid (Below w.heap.size w w4) := HB3.out.trans (b.mono HB3.out.size)
  clear b
  go_wp2_with fail
  refine Calls.mono (H5.out _ HB4.out) ?_
  rintro e w5 ⟨rfl, b⟩
  have HB5 : Hid (Below w.heap.size w w5) := HB4.out.trans (b.mono HB4.out.size)
  clear b
  go_wp2_with fail
  refine Calls.mono (H6.out _ HB5.out) ?_
  rintro e w6 ⟨rfl, b⟩
  have HB6 : Hid (Below w.heap.size w w6) := HB5.out.trans (b.mono HB5.out.size)
  clear b
  go_wp2_with fail
  refine Calls.mono (H7.out _ HB6.out) ?_
  rintro e w7 ⟨rfl, b⟩
  have HB7 : Hid (Below w.heap.size w w7) := HB6.out.trans (b.mono HB6.out.size)
  clear b
  go_wp2_with fail
  refine Calls.mono (H8.out _ HB7.out) ?_
  rintro e w8 ⟨rfl, b⟩
  have HB8 : Hid (Below w.heap.size w w8) := HB7.out.trans (b.mono HB7.out.size)
  clear b
  go_wp2_with fail
  go_ret
  exact ⟨rfl, HB8.out⟩
end Go.Proofs.YtglmffplnglkdaaDoor
