/- The walk of the law QuerySound over this translation. -/
import Derived.Test.YtglmffplnglkdabDoorQSolveTop
import Derived.Test.YtglmffplnglkdabDoorQStrange
namespace Go.Proofs.YtglmffplnglkdabDoor
open Go.RowKit
set_option linter.unusedVariables false
set_option linter.unusedSimpArgs false
set_option maxHeartbeats 4000000 in
theorem sound_walk (v vl : Value) (l : List Rq) (ls : List Lb) (w : World) (hv : Reqs w v l) (hf : ∀ r ∈ l, Fit r) (hl : Labs w vl ls) (hfl : FitL ls) (hR : Room w) :
    Calls Tryd.prog 4 #[v, vl] w fun e w' => e = .returned (.bool true) ∧ Below w.heap.size w w' := by
  have HSo : Hid (Calls Tryd.prog 9 #[v] w fun e w' => ∃ u b, e = .returned (.tuple #[u, .bool b, .int .i64 (chkI l)]) ∧ ((chkI l ≠ 0 ∧ b = false ∧ u = .slice none 0 0) ∨ (chkI l = 0 ∧ SolveR l w' u b)) ∧ Below w.heap.size w w') := solveTop_any v l w hv hf hR
  have HM : Hid (∀ w1, Below w.heap.size w w1 → Calls Tryd.prog 8 #[v, vl] w1 fun e w' => e = .returned (.tuple #[.bool (matchE l ls).1, .int .i64 (matchE l ls).2]) ∧ Below w1.heap.size w1 w') := fun w1 hb => match_any v vl l ls w1 (hv.below hb) hf (hl.below hb) hfl (hR.below hb)
  have HM2 : Hid (∀ w1 u zs, Below w.heap.size w w1 → Labs w1 u zs → FitL zs → Calls Tryd.prog 8 #[v, u] w1 fun e w' => e = .returned (.tuple #[.bool (matchE l zs).1, .int .i64 (matchE l zs).2]) ∧ Below w1.heap.size w1 w') := fun w1 u zs hb ha hfa => match_any v u l zs w1 (hv.below hb) hf ha hfa (hR.below hb)
  have HS : Hid (∀ w1, Below w.heap.size w w1 → Calls Tryd.prog 7 #[] w1 fun e w' => e = .returned (.bool true) ∧ Below w1.heap.size w1 w') := fun w1 hb => strange_any w1 (hR.below hb)
  have HBad : Hid (chkI l ≠ 0 → (matchE l ls).2 = chkI l) := fun h => by rw [matchE_chk h]
  have HNone : Hid (chkI l = 0 → solveP l = none → (matchE l ls).1 = false) := fun h hs => by
    by_cases g : labelsI ls = 0
    · rw [matchE_ok h g]; exact solve_none (fine_of_chk h) hs ls
    · rw [matchE_labs h g]
  have HSome : Hid (∀ zs, chkI l = 0 → solveP l = some zs → matchE l zs = (true, 0) ∧ FitL zs) := fun zs h hs => by
    have h1 := solve_labels (fine_of_chk h) hs
    rw [matchE_ok h h1, solve_match hs]
    exact ⟨rfl, fitL_of_labels h1⟩
  obtain ⟨p, c, rfl, hn, hcell⟩ := hv.open
  obtain ⟨p2, c2, rfl, hn2, hcell2⟩ := hl.open
  clear hv hf hl hfl hR hcell hcell2 hn hn2
  generalize hce : chkI l = ce at *
  clear hce
  generalize (matchE l ls).1 = x at *
  generalize (matchE l ls).2 = f at *
  generalize l.length = nl at *
  generalize ls.length = nls at *
  go_enter Tryd.func4, Tryd.ntmps4
  go_wp2_with fail
  refine Calls.mono HSo.out ?_
  rintro e w1 ⟨u, b, rfl, hcase, b1⟩
  have HB1 : Hid (Below w.heap.size w w1) := b1
  clear b1
  rcases hcase with ⟨hce, rfl, rfl⟩ | ⟨hce, hcase⟩
  · have HF : Hid (f = ce) := HBad.out hce
    have hcb : (ce != 0) = true := by simpa using hce
    clear hce HBad HNone HSome HM2
    go_wp2_with fail
    refine Calls.mono (HM.out w1 HB1.out) ?_
    rintro e w2 ⟨rfl, b2⟩
    have HB2 : Hid (Below w.heap.size w w2) := HB1.out.trans (b2.mono HB1.out.size)
    clear b2
    go_wp2_with fail
    refine Calls.mono (HS.out w2 HB2.out) ?_
    rintro e w3 ⟨rfl, b3⟩
    have HB3 : Hid (Below w.heap.size w w3) := HB2.out.trans (b3.mono HB2.out.size)
    have hfb : (f != 0) = true := by rw [HF.out]; exact hcb
    clear b3
    go_wp2_with fail
    go_ret
    exact ⟨rfl, HB3.out⟩
  · subst hce
    rcases hcase with ⟨hs, rfl, rfl⟩ | ⟨zs, hs, rfl, hla⟩
    · have HX : Hid (x = false) := HNone.out rfl hs
      clear HBad HNone HSome HM2 hs
      rw [HX.out] at HM
      go_wp2_with fail
      refine Calls.mono (HM.out w1 HB1.out) ?_
      rintro e w2 ⟨rfl, b2⟩
      have HB2 : Hid (Below w.heap.size w w2) := HB1.out.trans (b2.mono HB1.out.size)
      clear b2
      go_wp2_with fail
      refine Calls.mono (HS.out w2 HB2.out) ?_
      rintro e w3 ⟨rfl, b3⟩
      have HB3 : Hid (Below w.heap.size w w3) := HB2.out.trans (b3.mono HB2.out.size)
      clear b3
      go_wp2_with fail
      go_ret
      exact ⟨rfl, HB3.out⟩
    · obtain ⟨hma, hfa⟩ := HSome.out zs rfl hs
      have HMa : Hid (∀ w2, Below w1.heap.size w1 w2 → Calls Tryd.prog 8 #[.slice p nl c, u] w2 fun e w' => e = .returned (.tuple #[.bool true, .int .i64 0]) ∧ Below w2.heap.size w2 w') := fun w2 hb => by
        have h := HM2.out w2 u zs (HB1.out.trans (hb.mono HB1.out.size)) (hla.below hb) hfa
        rw [hma] at h
        exact h
      obtain ⟨p3, c3, rfl, hn3, hcell3⟩ := hla.open
      clear HBad HNone HSome HM2 hs hma hfa hla hcell3 hn3
      generalize zs.length = na at *
      go_wp2_with fail
      refine Calls.mono (HM.out w1 HB1.out) ?_
      rintro e w2 ⟨rfl, b2⟩
      have HB2 : Hid (Below w.heap.size w w2) := HB1.out.trans (b2.mono HB1.out.size)
      have HB21 : Hid (Below w1.heap.size w1 w2) := b2
      clear b2
      go_wp2_with fail
      refine Calls.mono (HS.out w2 HB2.out) ?_
      rintro e w3 ⟨rfl, b3⟩
      have HB3 : Hid (Below w.heap.size w w3) := HB2.out.trans (b3.mono HB2.out.size)
      have HB31 : Hid (Below w1.heap.size w1 w3) := HB21.out.trans (b3.mono HB21.out.size)
      clear b3
      go_wp2_with fail
      refine Calls.mono (HMa.out w3 HB31.out) ?_
      rintro e w4 ⟨rfl, b4⟩
      have HB4 : Hid (Below w.heap.size w w4) := HB3.out.trans (b4.mono HB3.out.size)
      clear b4
      go_wp2_with fail
      go_ret
      exact ⟨rfl, HB4.out⟩
end Go.Proofs.YtglmffplnglkdabDoor
