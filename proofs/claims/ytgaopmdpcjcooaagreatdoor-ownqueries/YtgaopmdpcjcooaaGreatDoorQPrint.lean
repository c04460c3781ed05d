/- Contracts over this translation: query.Print, the document's QueryPrint. -/
import Derived.Test.YtgaopmdpcjcooaaGreatDoorQTells
import Derived.Test.YtgaopmdpcjcooaaGreatDoorQCheck
import Derived.RegionTactic
namespace Go.Proofs.YtgaopmdpcjcooaaGreatDoor
open Go.RowKit
set_option linter.unusedVariables false
set_option linter.unusedSimpArgs false
/-- what Print answers -/
def printE (l : List Rq) : Bs × Int := if chkI l ≠ 0 then ([], chkI l) else if 300 < (tellAll l).length then ([], 2) else (tellAll l, 0)
theorem printE_bad {l : List Rq} (h : chkI l ≠ 0) : printE l = ([], chkI l) := if_pos h
theorem printE_large {l : List Rq} (h : chkI l = 0) (g : 300 < (tellAll l).length) : printE l = ([], 2) := by rw [printE, if_neg (by simp [h]), if_pos g]
theorem printE_ok {l : List Rq} (h : chkI l = 0) (g : ¬ 300 < (tellAll l).length) : printE l = (tellAll l, 0) := by rw [printE, if_neg (by simp [h]), if_neg g]
set_option maxHeartbeats 2000000 in
theorem print_any (v : Value) (l : List Rq) (w : World) (hv : Reqs w v l) (hf : ∀ r ∈ l, Fit r) (hR : Room w) :
    Calls Tryz.prog 14 #[v] w fun e w' => e = .returned (.tuple #[.string (Ba (printE l).1), .int .i64 (printE l).2]) ∧ Below w.heap.size w w' := by
  have HC : Hid (Calls Tryz.prog 20 #[v] w fun e w' => e = .returned (.int .i64 (chkI l)) ∧ Below w.heap.size w w') := chk_any v l w hv hf hR
  have HT : Hid (chkI l = 0 → ∀ w1, Below w.heap.size w w1 → Calls Tryz.prog 29 #[v] w1 fun e w' => e = .returned (.string (Ba (tellAll l))) ∧ Below w1.heap.size w1 w') := fun h w1 hb => tells_any v l w1 (hv.below hb) (small_of h)
  obtain ⟨p, c, rfl, hn, hcell⟩ := hv.open
  clear hv hcell hf hR
  by_cases h1 : chkI l = 0
  · have hn1 : (chkI l != 0) = false := by simp [h1]
    have HT2 : Hid (_) := HT.out h1
    have hsz := ba_size (tellAll l)
    by_cases h2 : 300 < (tellAll l).length
    · have h2I : (300 : Int) < ((Ba (tellAll l)).size : Int) := by omega
      rw [printE_large h1 h2]
      clear h1 h2 HT hsz
      generalize chkI l = ce at *
      generalize l.length = nl at *
      generalize Ba (tellAll l) = y at *
      go_enter Tryz.func14, Tryz.ntmps14
      go_wp2_with fail
      refine Calls.mono HC.out ?_
      rintro e w1 ⟨rfl, b⟩
      have HB : Hid (Below w.heap.size w w1) := b
      clear b
      go_wp2_with fail
      refine Calls.mono (HT2.out _ HB.out) ?_
      rintro e w2 ⟨rfl, b⟩
      have HB2 : Hid (Below w.heap.size w w2) := HB.out.trans (b.mono HB.out.size)
      clear b
      go_wp2_with fail
      go_ret2
      exact ⟨rfl, HB2.out⟩
    · have h2I : ¬ (300 : Int) < ((Ba (tellAll l)).size : Int) := by omega
      rw [printE_ok h1 h2]
      clear h1 h2 HT hsz
      generalize chkI l = ce at *
      generalize l.length = nl at *
      generalize Ba (tellAll l) = y at *
      go_enter Tryz.func14, Tryz.ntmps14
      go_wp2_with fail
      refine Calls.mono HC.out ?_
      rintro e w1 ⟨rfl, b⟩
      have HB : Hid (Below w.heap.size w w1) := b
      clear b
      go_wp2_with fail
      refine Calls.mono (HT2.out _ HB.out) ?_
      rintro e w2 ⟨rfl, b⟩
      have HB2 : Hid (Below w.heap.size w w2) := HB.out.trans (b.mono HB.out.size)
      clear b
      go_wp2_with fail
      go_ret2
      exact ⟨rfl, HB2.out⟩
  · have hn1 : (chkI l != 0) = true := by simpa using h1
    rw [printE_bad h1]
    clear h1 HT
    generalize chkI l = ce at *
    generalize l.length = nl at *
    go_enter Tryz.func14, Tryz.ntmps14
    go_wp2_with fail
    refine Calls.mono HC.out ?_
    rintro e w1 ⟨rfl, b⟩
    have HB : Hid (Below w.heap.size w w1) := b
    clear b
    go_wp2_with fail
    go_ret2
    exact ⟨rfl, HB.out⟩
end Go.Proofs.YtgaopmdpcjcooaaGreatDoor
