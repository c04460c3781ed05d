/- Contract over this translation: the function that query.matches hands down. -/
import Derived.Test.YtglmffplnglkdaaDoorQHolds
import Derived.Deep.RegionHeld3
namespace Go.Proofs.YtglmffplnglkdaaDoor
open Go.RowKit
set_option linter.unusedVariables false
set_option linter.unusedSimpArgs false
/-- a box of three cells, and another cell, in all worlds that have grown -/
def QSt (b c : Nat) (x y z u : Value) (w' : World) : Prop := w'.cell? ⟨b, 0, none⟩ = some x ∧ w'.cell? ⟨b, 1, none⟩ = some y ∧ w'.cell? ⟨b, 2, none⟩ = some z ∧ w'.cell? ⟨c, 0, none⟩ = some u
theorem QSt.below {b c : Nat} {x y z u : Value} {w w' : World} (h : QSt b c x y z u w) (hb : b < w.heap.size) (hc : c < w.heap.size) (e : Below w.heap.size w w') : QSt b c x y z u w' := by
  obtain ⟨h1, h2, h3, h4⟩ := h
  refine ⟨?_, ?_, ?_, ?_⟩
  · rw [e.cell (p := ⟨b, 0, none⟩) hb]; exact h1
  · rw [e.cell (p := ⟨b, 1, none⟩) hb]; exact h2
  · rw [e.cell (p := ⟨b, 2, none⟩) hb]; exact h3
  · rw [e.cell (p := ⟨c, 0, none⟩) hc]; exact h4
set_option maxRecDepth 100000 in
set_option maxHeartbeats 4000000 in
theorem matchClos_any (r : Rq) (v : Value) (vl : Value) (ls : List Lb) (cb : Nat) (w : World) (hv : Strs w v r.2.2) (hl : Labs w vl ls) (hcb : cb < w.heap.size) (hcc : w.cell? ⟨cb, 0, none⟩ = some vl) :
    Calls Tryd.prog 36 #[.agg #[.string (Ba r.1), .int .i64 r.2.1, v], .pointer (some ⟨cb, 0, none⟩)] w fun e w' => e = .returned (.bool (!holdsB r (stateB ls r.1))) ∧ Below w.heap.size w w' := by
  obtain ⟨key, kd, vs⟩ := r
  obtain ⟨p, c, rfl, hn⟩ := hv.form
  obtain ⟨p2, c2, rfl, hn2, hlx⟩ := hl.open
  clear hlx
  obtain ⟨so, hso⟩ : ∃ so, stateB ls key = so := ⟨_, rfl⟩
  have hb0 : Below w.heap.size w (w.alloc (.cells #[.string (Ba key), .int .i64 kd, .slice p vs.length c] 37)) := (Below.refl _ _).alloc (Nat.le_refl _) _
  have hq0 : QSt w.heap.size cb (.string (Ba key)) (.int .i64 kd) (.slice p vs.length c) (.slice p2 ls.length c2) (w.alloc (.cells #[.string (Ba key), .int .i64 kd, .slice p vs.length c] 37)) := by
    obtain ⟨a1, a2, a3⟩ := box3 (w := w) (a := .string (Ba key)) (b := .int .i64 kd) (c := .slice p vs.length c) (t := 37) (Below.refl _ _)
    exact ⟨a1, a2, a3, by rw [hb0.cell (p := ⟨cb, 0, none⟩) hcb]; exact hcc⟩
  have hsz : (w.alloc (.cells #[.string (Ba key), .int .i64 kd, .slice p vs.length c] 37)).heap.size = w.heap.size + 1 := by simp
  have HS : Hid (∀ w1, Below w.heap.size w w1 ∧ w.heap.size < w1.heap.size ∧ QSt w.heap.size cb (.string (Ba key)) (.int .i64 kd) (.slice p vs.length c) (.slice p2 ls.length c2) w1 →
      Calls Tryd.prog 38 #[.slice p2 ls.length c2, .string (Ba key)] w1 fun e w' => e = .returned (stV so) ∧ Below w.heap.size w w' ∧ w.heap.size < w'.heap.size ∧ QSt w.heap.size cb (.string (Ba key)) (.int .i64 kd) (.slice p vs.length c) (.slice p2 ls.length c2) w') := by
    intro w1 ⟨h1, h2, h3⟩
    refine (state_of _ ls key w1 (hl.below h1)).mono ?_
    rintro e w2 ⟨rfl, b⟩
    have := b.size
    exact ⟨by rw [hso], h1.trans (b.mono h1.size), by omega, h3.below h2 (by omega) b⟩
  have HH : Hid (∀ w1, Below w.heap.size w w1 ∧ w.heap.size < w1.heap.size ∧ QSt w.heap.size cb (.string (Ba key)) (.int .i64 kd) (.slice p vs.length c) (.slice p2 ls.length c2) w1 →
      Calls Tryd.prog 37 #[.agg #[.string (Ba key), .int .i64 kd, .slice p vs.length c], stV so] w1 fun e w' => e = .returned (.bool (holdsB (key, kd, vs) so)) ∧ Below w.heap.size w w' ∧ w.heap.size < w'.heap.size ∧ QSt w.heap.size cb (.string (Ba key)) (.int .i64 kd) (.slice p vs.length c) (.slice p2 ls.length c2) w') := by
    intro w1 ⟨h1, h2, h3⟩
    refine (holds_of (key, kd, vs) _ so w1 (hv.below h1)).mono ?_
    rintro e w2 ⟨rfl, b⟩
    have := b.size
    exact ⟨rfl, h1.trans (b.mono h1.size), by omega, h3.below h2 (by omega) b⟩
  have HP0 : Hid (Below w.heap.size w (w.alloc (.cells #[.string (Ba key), .int .i64 kd, .slice p vs.length c] 37)) ∧ w.heap.size < (w.alloc (.cells #[.string (Ba key), .int .i64 kd, .slice p vs.length c] 37)).heap.size ∧ QSt w.heap.size cb (.string (Ba key)) (.int .i64 kd) (.slice p vs.length c) (.slice p2 ls.length c2) (w.alloc (.cells #[.string (Ba key), .int .i64 kd, .slice p vs.length c] 37))) :=
    ⟨hb0, by omega, hq0⟩
  show Calls _ _ _ _ fun e w' => e = .returned (.bool (!holdsB (key, kd, vs) (stateB ls key))) ∧ Below w.heap.size w w'
  rw [hso]
  clear hso hb0 hq0 hsz hv hl hcc hn hn2
  generalize holdsB (key, kd, vs) so = res at *
  unfold stV at HS HH
  generalize so.isSome = b1 at *
  generalize Ba (so.getD []) = b2 at *
  generalize Ba key = kk at *
  generalize vs.length = nv at *
  generalize ls.length = nl at *
  go_enter Tryd.func36, Tryd.ntmps36
  go_wp2_with fail
  obtain ⟨w0, hw0⟩ : ∃ w0, w0 = w.alloc (.cells #[.string kk, .int .i64 kd, .slice p nv c] 37) := ⟨_, rfl⟩
  rw [← hw0] at HP0 ⊢
  clear hw0
  have hS0 : Below w.heap.size w w0.drew ∧ w.heap.size < w0.drew.heap.size ∧ QSt w.heap.size cb (.string kk) (.int .i64 kd) (.slice p nv c) (.slice p2 nl c2) w0.drew := ⟨HP0.out.1.drew, HP0.out.2.1, HP0.out.2.2⟩
  go_region_held3 (fun w' => w'.cell? ⟨w.heap.size, 0, none⟩ = some (.string kk) ∧ w'.cell? ⟨w.heap.size, 1, none⟩ = some (.int .i64 kd) ∧ w'.cell? ⟨w.heap.size, 2, none⟩ = some (.slice p nv c) ∧ w'.cell? ⟨cb, 0, none⟩ = some (.slice p2 nl c2)) (first | assumption | exact (And.right (And.right (by assumption : Below w.heap.size w _ ∧ w.heap.size < _ ∧ QSt w.heap.size cb (.string kk) (.int .i64 kd) (.slice p nv c) (.slice p2 nl c2) _))) | go_keep)
    (first
      | (go_at_call 38; refine Calls.mono (HS.out _ (by assumption)) ?_; rintro e w11 ⟨rfl, hS1⟩)
      | (go_at_call 37; refine Calls.mono (HH.out _ (by assumption)) ?_; rintro e w12 ⟨rfl, hS2⟩))
  all_goals
    have HHe : Hid (Below w.heap.size w w12) := hS2.1
    go_wp2_with fail
    go_ret
    exact ⟨rfl, HHe.out⟩
end Go.Proofs.YtglmffplnglkdaaDoor
