/- The walk of the law QueryRow over this translation. -/
import Derived.Test.YtglmffplnglkdabDoorQCopy
import Derived.Test.YtglmffplnglkdabDoorQStrange
namespace Go.Proofs.YtglmffplnglkdabDoor
open Go.RowKit
set_option linter.unusedVariables false
set_option linter.unusedSimpArgs false
/-- what Implies answers, but for the labels -/
def impE (l m : List Rq) : Bool × Int := if chkI l ≠ 0 then (false, chkI l) else if chkI m ≠ 0 then (false, chkI m) else ((impliesP l m).1, 0)
theorem impE_of {l m : List Rq} {w : World} {yes : Bool} {u : Value} {er : Int} (h : ImpR l m w yes u er) : (yes, er) = impE l m ∧ ∃ p n c, u = .slice p n c := by
  rcases h with ⟨h1, rfl, rfl, rfl⟩ | ⟨h1, h2, rfl, rfl, rfl⟩ | ⟨h1, h2, rfl, rfl, h3⟩
  · exact ⟨by rw [impE, if_pos h1], _, _, _, rfl⟩
  · exact ⟨by rw [impE, if_neg (by simp [h1]), if_pos h2], _, _, _, rfl⟩
  · obtain ⟨p, c, rfl, _, _⟩ := h3.open
    exact ⟨by rw [impE, if_neg (by simp [h1]), if_neg (by simp [h2])], _, _, _, rfl⟩
theorem impE_bad {l m : List Rq} (h : chkI l ≠ 0) : impE l m = (false, chkI l) := by rw [impE, if_pos h]
theorem impE_bad2 {l m : List Rq} (h : chkI l = 0) (g : chkI m ≠ 0) : impE l m = (false, chkI m) := by rw [impE, if_neg (by simp [h]), if_pos g]
theorem impE_ok {l m : List Rq} (h : chkI l = 0) (g : chkI m = 0) : impE l m = ((impliesP l m).1, 0) := by rw [impE, if_neg (by simp [h]), if_neg (by simp [g])]
theorem impE_self {l : List Rq} (h : chkI l = 0) : impE l l = (true, 0) := by
  rw [impE_ok h h, (implies_iff h h).2 (fun _ h => h)]
theorem impE_both {l n : List Rq} (h : chkI l = 0) : (impE (l ++ n) l).2 ≠ 0 ∨ impE (l ++ n) l = (true, 0) := by
  by_cases c : chkI (l ++ n) = 0
  · right
    rw [impE_ok c h, (implies_iff c h).2 (fun ls hm => by
      rw [match_append, Bool.and_eq_true] at hm
      exact hm.1)]
  · left
    rw [impE_bad c]
    exact c
theorem flatR_append (L N : List (Rq × Value)) : flatR (L ++ N) = flatR L ++ flatR N := by simp [flatR]
/-- Implies of two, wherever it is called -/
def IS (w : World) (v u : Value) (a : Bool × Int) : Prop := ∀ w1, Below w.heap.size w w1 → Calls Tryd.prog 10 #[v, u] w1 fun e w' => (∃ p n c, e = .returned (.tuple #[.bool a.1, .slice p n c, .int .i64 a.2])) ∧ Below w1.heap.size w1 w'
theorem is_of (w : World) (v u : Value) (l m : List Rq) (hv : Reqs w v l) (hg : GoodV v) (hu : Reqs w u m) (hfl : ∀ r ∈ l, Fit r) (hfm : ∀ r ∈ m, Fit r) (hR : Room w) : IS w v u (impE l m) := by
  intro w1 hb
  refine (implies_any v u l m w1 (hv.below hb) hg (hu.below hb) hfl hfm (hR.below hb)).mono ?_
  rintro e w' ⟨yes, uu, er, rfl, hi, b⟩
  obtain ⟨h1, p, n, c, rfl⟩ := impE_of hi
  rw [← h1]
  exact ⟨⟨p, n, c, rfl⟩, b⟩
set_option maxRecDepth 100000 in
set_option maxHeartbeats 4000000 in
theorem row_h (p : Option Addr) (nl c : Nat) (p2 : Option Addr) (nm c2 : Nat) (p3 : Option Addr) (nn c3 : Nat) (h er f g : Int) (y : Bool) (hh : h ≠ 0) (w : World) (hi1 : IS w (.slice p nl c) (.slice p2 nm c2) (false, er)) (hi2 : IS w (.slice p2 nm c2) (.slice p3 nn c3) (y, f)) (hi3 : IS w (.slice p nl c) (.slice p3 nn c3) (false, g)) (hi4 : IS w (.slice p nl c) (.slice p nl c) (false, h)) (hS : ∀ w1, Below w.heap.size w w1 → Calls Tryd.prog 7 #[] w1 fun e w' => e = .returned (.bool true) ∧ Below w1.heap.size w1 w')  :
    Calls Tryd.prog 6 #[.slice p nl c, .slice p2 nm c2, .slice p3 nn c3] w fun e w' => e = .returned (.bool true) ∧ Below w.heap.size w w' := by
  have HI1 : Hid (∀ w1, Below w.heap.size w w1 → Calls Tryd.prog 10 #[.slice p nl c, .slice p2 nm c2] w1 fun e w' => (∃ p n c, e = .returned (.tuple #[.bool false, .slice p n c, .int .i64 er])) ∧ Below w1.heap.size w1 w') := hi1
  have HI2 : Hid (∀ w1, Below w.heap.size w w1 → Calls Tryd.prog 10 #[.slice p2 nm c2, .slice p3 nn c3] w1 fun e w' => (∃ p n c, e = .returned (.tuple #[.bool y, .slice p n c, .int .i64 f])) ∧ Below w1.heap.size w1 w') := hi2
  have HI3 : Hid (∀ w1, Below w.heap.size w w1 → Calls Tryd.prog 10 #[.slice p nl c, .slice p3 nn c3] w1 fun e w' => (∃ p n c, e = .returned (.tuple #[.bool false, .slice p n c, .int .i64 g])) ∧ Below w1.heap.size w1 w') := hi3
  have HI4 : Hid (∀ w1, Below w.heap.size w w1 → Calls Tryd.prog 10 #[.slice p nl c, .slice p nl c] w1 fun e w' => (∃ p n c, e = .returned (.tuple #[.bool false, .slice p n c, .int .i64 h])) ∧ Below w1.heap.size w1 w') := hi4
  have HS : Hid (∀ w1, Below w.heap.size w w1 → Calls Tryd.prog 7 #[] w1 fun e w' => e = .returned (.bool true) ∧ Below w1.heap.size w1 w') := hS
  have hhb : (h != 0) = true := by simpa using hh
  clear hh
  clear hi1 hi2 hi3 hi4 hS
  go_enter Tryd.func6, Tryd.ntmps6
  go_wp2_with fail
  refine Calls.mono (HI1.out w (Below.refl _ _)) ?_
  rintro e w1 ⟨⟨qq1, ii1, cc1, rfl⟩, b1⟩
  have HB1 : Hid (Below w.heap.size w w1) := b1
  clear b1
  go_wp2_with fail
  refine Calls.mono (HI2.out w1 HB1.out) ?_
  rintro e w2 ⟨⟨qq2, ii2, cc2, rfl⟩, b2⟩
  have HB2 : Hid (Below w.heap.size w w2) := HB1.out.trans (b2.mono HB1.out.size)
  clear b2
  go_wp2_with fail
  refine Calls.mono (HI3.out w2 HB2.out) ?_
  rintro e w3 ⟨⟨qq3, ii3, cc3, rfl⟩, b3⟩
  have HB3 : Hid (Below w.heap.size w w3) := HB2.out.trans (b3.mono HB2.out.size)
  clear b3
  go_wp2_with fail
  refine Calls.mono (HI4.out w3 HB3.out) ?_
  rintro e w4 ⟨⟨qq4, ii4, cc4, rfl⟩, b4⟩
  have HB4 : Hid (Below w.heap.size w w4) := HB3.out.trans (b4.mono HB3.out.size)
  clear b4
  go_wp2_with fail
  refine Calls.mono (HS.out w4 HB4.out) ?_
  rintro e w5 ⟨rfl, b5⟩
  have HB5 : Hid (Below w.heap.size w w5) := HB4.out.trans (b5.mono HB4.out.size)
  clear b5
  go_wp2_with fail
  go_ret
  exact ⟨rfl, HB5.out⟩
end Go.Proofs.YtglmffplnglkdabDoor
