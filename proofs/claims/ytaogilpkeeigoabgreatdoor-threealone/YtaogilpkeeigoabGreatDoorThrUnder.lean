/- Contract over this translation: what three documents have under a name. -/
import Derived.Test.YtaogilpkeeigoabGreatDoorThrUs
import Derived.Deep.RegionHeld3
namespace Go.Proofs.YtaogilpkeeigoabGreatDoor
open Go.RowKit
set_option linter.unusedVariables false
set_option linter.unusedSimpArgs false
set_option maxRecDepth 100000 in
set_option maxHeartbeats 4000000 in
theorem placeUnder_c0 (va vb vc : Value) (T1 T2 T3 : TypeId) (x1 x2 x3 : Value) (p1 p2 p3 : Option Addr) (k1 k2 k3 c1 c2 c3 : Nat) (nm : ByteArray) (w : World) (va' : IsV va) (vb' : IsV vb) (vc' : IsV vc)
    (hF1 : ∀ w1, Calls Tryz.prog 112 #[va] w1 fun e w' => e = .returned (.slice p1 k1 c1) ∧ w' = w1) (hF2 : ∀ w1, Calls Tryz.prog 112 #[vb] w1 fun e w' => e = .returned (.slice p2 k2 c2) ∧ w' = w1) (hF3 : ∀ w1, Calls Tryz.prog 112 #[vc] w1 fun e w' => e = .returned (.slice p3 k3 c3) ∧ w' = w1)
    (hU1 : ∀ w1, Below w.heap.size w w1 → Calls Tryz.prog 58 #[.slice p1 k1 c1, .string nm] w1 fun e w' => e = .returned .nilIface ∧ Below w1.heap.size w1 w') (hU2 : ∀ w1, Below w.heap.size w w1 → Calls Tryz.prog 58 #[.slice p2 k2 c2, .string nm] w1 fun e w' => e = .returned .nilIface ∧ Below w1.heap.size w1 w') (hU3 : ∀ w1, Below w.heap.size w w1 → Calls Tryz.prog 58 #[.slice p3 k3 c3, .string nm] w1 fun e w' => e = .returned .nilIface ∧ Below w1.heap.size w1 w') :
    Calls Tryz.prog 71 #[.agg #[va, vb, vc], .string nm] w fun e w' => e = .returned (.agg #[.nilIface, .nilIface, .nilIface]) ∧ Below w.heap.size w w' := by
  have HF1 : Hid (∀ w1, Calls Tryz.prog 112 #[va] w1 fun e w' => e = .returned (.slice p1 k1 c1) ∧ w' = w1) := hF1
  have HF2 : Hid (∀ w1, Calls Tryz.prog 112 #[vb] w1 fun e w' => e = .returned (.slice p2 k2 c2) ∧ w' = w1) := hF2
  have HF3 : Hid (∀ w1, Calls Tryz.prog 112 #[vc] w1 fun e w' => e = .returned (.slice p3 k3 c3) ∧ w' = w1) := hF3
  have HU1 : Hid (∀ w1, PSt w w1 va vb vc → Calls Tryz.prog 58 #[.slice p1 k1 c1, .string nm] w1 fun e w' => e = .returned .nilIface ∧ PSt w w' va vb vc) := fun w1 h => (hU1 w1 h.1).mono fun e w' ⟨he, b⟩ => ⟨he, h.1.trans (b.mono h.1.size), h.2.1.below b, h.2.2.below b⟩
  have HU2 : Hid (∀ w1, PSt w w1 va vb vc → Calls Tryz.prog 58 #[.slice p2 k2 c2, .string nm] w1 fun e w' => e = .returned .nilIface ∧ PSt w w' va vb vc) := fun w1 h => (hU2 w1 h.1).mono fun e w' ⟨he, b⟩ => ⟨he, h.1.trans (b.mono h.1.size), h.2.1.below b, h.2.2.below b⟩
  have HU3 : Hid (∀ w1, PSt w w1 va vb vc → Calls Tryz.prog 58 #[.slice p3 k3 c3, .string nm] w1 fun e w' => e = .returned .nilIface ∧ PSt w w' va vb vc) := fun w1 h => (hU3 w1 h.1).mono fun e w' ⟨he, b⟩ => ⟨he, h.1.trans (b.mono h.1.size), h.2.1.below b, h.2.2.below b⟩
  have HP0 : Hid (PSt w ((w.alloc (.cells #[va, vb, vc] 88)).alloc (.cells #[.nilIface, .nilIface, .nilIface] 88)) va vb vc) := by
    refine ⟨((Below.refl _ _).alloc (Nat.le_refl _) _).alloc (by simp) _, (box3_new w _ _ _).alloc _, ?_⟩
    have h9 := box3_new (w.alloc (.cells #[va, vb, vc] 88)) .nilIface .nilIface .nilIface
    have e9 : (w.alloc (.cells #[va, vb, vc] 88)).heap.size = w.heap.size + 1 := by simp
    rw [e9] at h9
    exact h9
  clear hF1 hF2 hF3 hU1 hU2 hU3
  go_enter Tryz.func71, Tryz.ntmps71
  go_wp2_with fail
  obtain ⟨w0, hw0⟩ : ∃ w0, w0 = (w.alloc (.cells #[va, vb, vc] 88)).alloc (.cells #[.nilIface, .nilIface, .nilIface] 88) := ⟨_, rfl⟩
  rw [← hw0] at HP0 ⊢
  clear hw0
  have hS0 : PSt w w0.drew va vb vc := ⟨HP0.out.1.drew, HP0.out.2.1, HP0.out.2.2⟩
  go_region_held3 (fun w' => w'.cell? ⟨w.heap.size, 0, none⟩ = some va ∧ w'.cell? ⟨w.heap.size, 1, none⟩ = some vb ∧ w'.cell? ⟨w.heap.size, 2, none⟩ = some vc) (first | assumption | exact pst_cells (by assumption) | go_keep)
    (first
      | (go_at_call_of 112 va; refine Calls.mono (HF1.out _) ?_; rintro e _ ⟨rfl, rfl⟩)
      | (go_at_call_of 112 vb; refine Calls.mono (HF2.out _) ?_; rintro e _ ⟨rfl, rfl⟩)
      | (go_at_call_of 112 vc; refine Calls.mono (HF3.out _) ?_; rintro e _ ⟨rfl, rfl⟩)
      | (go_at_call_of 58 k1; refine Calls.mono (HU1.out _ (by assumption)) ?_; rintro e w11 ⟨rfl, hS1⟩)
      | (go_at_call_of 58 k2; refine Calls.mono (HU2.out _ (by assumption)) ?_; rintro e w12 ⟨rfl, hS2⟩)
      | (go_at_call_of 58 k3; refine Calls.mono (HU3.out _ (by assumption)) ?_; rintro e w13 ⟨rfl, hS3⟩; have z0 := hS3.2.2.c0; have z1 := hS3.2.2.c1; have z2 := hS3.2.2.c2; have f0 := hS3.2.2.free 0; have f1 := hS3.2.2.free 1; have f2 := hS3.2.2.free 2))
  all_goals
    have HHe : Hid (PSt w w13 va vb vc) := hS3
    have e6 := put3_box HHe.out.2.2 .nilIface .nilIface .nilIface
    have b6 := put3_below HHe.out.1 (g := w.heap.size + 1) (by omega) HHe.out.1.size .nilIface .nilIface .nilIface
    go_wp2_with fail
    change bodyPost _ _ _ _ _ (put3 w13 (w.heap.size + 1) _ _ _)
    generalize put3 w13 (w.heap.size + 1) .nilIface .nilIface .nilIface = W at *
    exact bodyPost_ret (v := .agg #[.nilIface, .nilIface, .nilIface]) (by simp [results, Tryz.results71, go_sem, e6.c0, e6.c1, e6.c2]) rfl ⟨rfl, b6⟩
set_option maxRecDepth 100000 in
set_option maxHeartbeats 4000000 in
theorem placeUnder_c1 (va vb vc : Value) (T1 T2 T3 : TypeId) (x1 x2 x3 : Value) (p1 p2 p3 : Option Addr) (k1 k2 k3 c1 c2 c3 : Nat) (nm : ByteArray) (w : World) (va' : IsV va) (vb' : IsV vb) (vc' : IsV vc)
    (hF1 : ∀ w1, Calls Tryz.prog 112 #[va] w1 fun e w' => e = .returned (.slice p1 k1 c1) ∧ w' = w1) (hF2 : ∀ w1, Calls Tryz.prog 112 #[vb] w1 fun e w' => e = .returned (.slice p2 k2 c2) ∧ w' = w1) (hF3 : ∀ w1, Calls Tryz.prog 112 #[vc] w1 fun e w' => e = .returned (.slice p3 k3 c3) ∧ w' = w1)
    (hU1 : ∀ w1, Below w.heap.size w w1 → Calls Tryz.prog 58 #[.slice p1 k1 c1, .string nm] w1 fun e w' => e = .returned .nilIface ∧ Below w1.heap.size w1 w') (hU2 : ∀ w1, Below w.heap.size w w1 → Calls Tryz.prog 58 #[.slice p2 k2 c2, .string nm] w1 fun e w' => e = .returned .nilIface ∧ Below w1.heap.size w1 w') (hU3 : ∀ w1, Below w.heap.size w w1 → Calls Tryz.prog 58 #[.slice p3 k3 c3, .string nm] w1 fun e w' => e = .returned (.iface T3 x3) ∧ Below w1.heap.size w1 w') :
    Calls Tryz.prog 71 #[.agg #[va, vb, vc], .string nm] w fun e w' => e = .returned (.agg #[.nilIface, .nilIface, (.iface T3 x3)]) ∧ Below w.heap.size w w' := by
  have HF1 : Hid (∀ w1, Calls Tryz.prog 112 #[va] w1 fun e w' => e = .returned (.slice p1 k1 c1) ∧ w' = w1) := hF1
  have HF2 : Hid (∀ w1, Calls Tryz.prog 112 #[vb] w1 fun e w' => e = .returned (.slice p2 k2 c2) ∧ w' = w1) := hF2
  have HF3 : Hid (∀ w1, Calls Tryz.prog 112 #[vc] w1 fun e w' => e = .returned (.slice p3 k3 c3) ∧ w' = w1) := hF3
  have HU1 : Hid (∀ w1, PSt w w1 va vb vc → Calls Tryz.prog 58 #[.slice p1 k1 c1, .string nm] w1 fun e w' => e = .returned .nilIface ∧ PSt w w' va vb vc) := fun w1 h => (hU1 w1 h.1).mono fun e w' ⟨he, b⟩ => ⟨he, h.1.trans (b.mono h.1.size), h.2.1.below b, h.2.2.below b⟩
  have HU2 : Hid (∀ w1, PSt w w1 va vb vc → Calls Tryz.prog 58 #[.slice p2 k2 c2, .string nm] w1 fun e w' => e = .returned .nilIface ∧ PSt w w' va vb vc) := fun w1 h => (hU2 w1 h.1).mono fun e w' ⟨he, b⟩ => ⟨he, h.1.trans (b.mono h.1.size), h.2.1.below b, h.2.2.below b⟩
  have HU3 : Hid (∀ w1, PSt w w1 va vb vc → Calls Tryz.prog 58 #[.slice p3 k3 c3, .string nm] w1 fun e w' => e = .returned (.iface T3 x3) ∧ PSt w w' va vb vc) := fun w1 h => (hU3 w1 h.1).mono fun e w' ⟨he, b⟩ => ⟨he, h.1.trans (b.mono h.1.size), h.2.1.below b, h.2.2.below b⟩
  have HP0 : Hid (PSt w ((w.alloc (.cells #[va, vb, vc] 88)).alloc (.cells #[.nilIface, .nilIface, .nilIface] 88)) va vb vc) := by
    refine ⟨((Below.refl _ _).alloc (Nat.le_refl _) _).alloc (by simp) _, (box3_new w _ _ _).alloc _, ?_⟩
    have h9 := box3_new (w.alloc (.cells #[va, vb, vc] 88)) .nilIface .nilIface .nilIface
    have e9 : (w.alloc (.cells #[va, vb, vc] 88)).heap.size = w.heap.size + 1 := by simp
    rw [e9] at h9
    exact h9
  clear hF1 hF2 hF3 hU1 hU2 hU3
  go_enter Tryz.func71, Tryz.ntmps71
  go_wp2_with fail
  obtain ⟨w0, hw0⟩ : ∃ w0, w0 = (w.alloc (.cells #[va, vb, vc] 88)).alloc (.cells #[.nilIface, .nilIface, .nilIface] 88) := ⟨_, rfl⟩
  rw [← hw0] at HP0 ⊢
  clear hw0
  have hS0 : PSt w w0.drew va vb vc := ⟨HP0.out.1.drew, HP0.out.2.1, HP0.out.2.2⟩
  go_region_held3 (fun w' => w'.cell? ⟨w.heap.size, 0, none⟩ = some va ∧ w'.cell? ⟨w.heap.size, 1, none⟩ = some vb ∧ w'.cell? ⟨w.heap.size, 2, none⟩ = some vc) (first | assumption | exact pst_cells (by assumption) | go_keep)
    (first
      | (go_at_call_of 112 va; refine Calls.mono (HF1.out _) ?_; rintro e _ ⟨rfl, rfl⟩)
      | (go_at_call_of 112 vb; refine Calls.mono (HF2.out _) ?_; rintro e _ ⟨rfl, rfl⟩)
      | (go_at_call_of 112 vc; refine Calls.mono (HF3.out _) ?_; rintro e _ ⟨rfl, rfl⟩)
      | (go_at_call_of 58 k1; refine Calls.mono (HU1.out _ (by assumption)) ?_; rintro e w11 ⟨rfl, hS1⟩)
      | (go_at_call_of 58 k2; refine Calls.mono (HU2.out _ (by assumption)) ?_; rintro e w12 ⟨rfl, hS2⟩)
      | (go_at_call_of 58 k3; refine Calls.mono (HU3.out _ (by assumption)) ?_; rintro e w13 ⟨rfl, hS3⟩; have z0 := hS3.2.2.c0; have z1 := hS3.2.2.c1; have z2 := hS3.2.2.c2; have f0 := hS3.2.2.free 0; have f1 := hS3.2.2.free 1; have f2 := hS3.2.2.free 2))
  all_goals
    have HHe : Hid (PSt w w13 va vb vc) := hS3
    have e6 := put3_box HHe.out.2.2 .nilIface .nilIface (.iface T3 x3)
    have b6 := put3_below HHe.out.1 (g := w.heap.size + 1) (by omega) HHe.out.1.size .nilIface .nilIface (.iface T3 x3)
    go_wp2_with fail
    change bodyPost _ _ _ _ _ (put3 w13 (w.heap.size + 1) _ _ _)
    generalize put3 w13 (w.heap.size + 1) .nilIface .nilIface (.iface T3 x3) = W at *
    exact bodyPost_ret (v := .agg #[.nilIface, .nilIface, (.iface T3 x3)]) (by simp [results, Tryz.results71, go_sem, e6.c0, e6.c1, e6.c2]) rfl ⟨rfl, b6⟩
set_option maxRecDepth 100000 in
set_option maxHeartbeats 4000000 in
theorem placeUnder_c2 (va vb vc : Value) (T1 T2 T3 : TypeId) (x1 x2 x3 : Value) (p1 p2 p3 : Option Addr) (k1 k2 k3 c1 c2 c3 : Nat) (nm : ByteArray) (w : World) (va' : IsV va) (vb' : IsV vb) (vc' : IsV vc)
    (hF1 : ∀ w1, Calls Tryz.prog 112 #[va] w1 fun e w' => e = .returned (.slice p1 k1 c1) ∧ w' = w1) (hF2 : ∀ w1, Calls Tryz.prog 112 #[vb] w1 fun e w' => e = .returned (.slice p2 k2 c2) ∧ w' = w1) (hF3 : ∀ w1, Calls Tryz.prog 112 #[vc] w1 fun e w' => e = .returned (.slice p3 k3 c3) ∧ w' = w1)
    (hU1 : ∀ w1, Below w.heap.size w w1 → Calls Tryz.prog 58 #[.slice p1 k1 c1, .string nm] w1 fun e w' => e = .returned .nilIface ∧ Below w1.heap.size w1 w') (hU2 : ∀ w1, Below w.heap.size w w1 → Calls Tryz.prog 58 #[.slice p2 k2 c2, .string nm] w1 fun e w' => e = .returned (.iface T2 x2) ∧ Below w1.heap.size w1 w') (hU3 : ∀ w1, Below w.heap.size w w1 → Calls Tryz.prog 58 #[.slice p3 k3 c3, .string nm] w1 fun e w' => e = .returned .nilIface ∧ Below w1.heap.size w1 w') :
    Calls Tryz.prog 71 #[.agg #[va, vb, vc], .string nm] w fun e w' => e = .returned (.agg #[.nilIface, (.iface T2 x2), .nilIface]) ∧ Below w.heap.size w w' := by
  have HF1 : Hid (∀ w1, Calls Tryz.prog 112 #[va] w1 fun e w' => e = .returned (.slice p1 k1 c1) ∧ w' = w1) := hF1
  have HF2 : Hid (∀ w1, Calls Tryz.prog 112 #[vb] w1 fun e w' => e = .returned (.slice p2 k2 c2) ∧ w' = w1) := hF2
  have HF3 : Hid (∀ w1, Calls Tryz.prog 112 #[vc] w1 fun e w' => e = .returned (.slice p3 k3 c3) ∧ w' = w1) := hF3
  have HU1 : Hid (∀ w1, PSt w w1 va vb vc → Calls Tryz.prog 58 #[.slice p1 k1 c1, .string nm] w1 fun e w' => e = .returned .nilIface ∧ PSt w w' va vb vc) := fun w1 h => (hU1 w1 h.1).mono fun e w' ⟨he, b⟩ => ⟨he, h.1.trans (b.mono h.1.size), h.2.1.below b, h.2.2.below b⟩
  have HU2 : Hid (∀ w1, PSt w w1 va vb vc → Calls Tryz.prog 58 #[.slice p2 k2 c2, .string nm] w1 fun e w' => e = .returned (.iface T2 x2) ∧ PSt w w' va vb vc) := fun w1 h => (hU2 w1 h.1).mono fun e w' ⟨he, b⟩ => ⟨he, h.1.trans (b.mono h.1.size), h.2.1.below b, h.2.2.below b⟩
  have HU3 : Hid (∀ w1, PSt w w1 va vb vc → Calls Tryz.prog 58 #[.slice p3 k3 c3, .string nm] w1 fun e w' => e = .returned .nilIface ∧ PSt w w' va vb vc) := fun w1 h => (hU3 w1 h.1).mono fun e w' ⟨he, b⟩ => ⟨he, h.1.trans (b.mono h.1.size), h.2.1.below b, h.2.2.below b⟩
  have HP0 : Hid (PSt w ((w.alloc (.cells #[va, vb, vc] 88)).alloc (.cells #[.nilIface, .nilIface, .nilIface] 88)) va vb vc) := by
    refine ⟨((Below.refl _ _).alloc (Nat.le_refl _) _).alloc (by simp) _, (box3_new w _ _ _).alloc _, ?_⟩
    have h9 := box3_new (w.alloc (.cells #[va, vb, vc] 88)) .nilIface .nilIface .nilIface
    have e9 : (w.alloc (.cells #[va, vb, vc] 88)).heap.size = w.heap.size + 1 := by simp
    rw [e9] at h9
    exact h9
  clear hF1 hF2 hF3 hU1 hU2 hU3
  go_enter Tryz.func71, Tryz.ntmps71
  go_wp2_with fail
  obtain ⟨w0, hw0⟩ : ∃ w0, w0 = (w.alloc (.cells #[va, vb, vc] 88)).alloc (.cells #[.nilIface, .nilIface, .nilIface] 88) := ⟨_, rfl⟩
  rw [← hw0] at HP0 ⊢
  clear hw0
  have hS0 : PSt w w0.drew va vb vc := ⟨HP0.out.1.drew, HP0.out.2.1, HP0.out.2.2⟩
  go_region_held3 (fun w' => w'.cell? ⟨w.heap.size, 0, none⟩ = some va ∧ w'.cell? ⟨w.heap.size, 1, none⟩ = some vb ∧ w'.cell? ⟨w.heap.size, 2, none⟩ = some vc) (first | assumption | exact pst_cells (by assumption) | go_keep)
    (first
      | (go_at_call_of 112 va; refine Calls.mono (HF1.out _) ?_; rintro e _ ⟨rfl, rfl⟩)
      | (go_at_call_of 112 vb; refine Calls.mono (HF2.out _) ?_; rintro e _ ⟨rfl, rfl⟩)
      | (go_at_call_of 112 vc; refine Calls.mono (HF3.out _) ?_; rintro e _ ⟨rfl, rfl⟩)
      | (go_at_call_of 58 k1; refine Calls.mono (HU1.out _ (by assumption)) ?_; rintro e w11 ⟨rfl, hS1⟩)
      | (go_at_call_of 58 k2; refine Calls.mono (HU2.out _ (by assumption)) ?_; rintro e w12 ⟨rfl, hS2⟩)
      | (go_at_call_of 58 k3; refine Calls.mono (HU3.out _ (by assumption)) ?_; rintro e w13 ⟨rfl, hS3⟩; have z0 := hS3.2.2.c0; have z1 := hS3.2.2.c1; have z2 := hS3.2.2.c2; have f0 := hS3.2.2.free 0; have f1 := hS3.2.2.free 1; have f2 := hS3.2.2.free 2))
  all_goals
    have HHe : Hid (PSt w w13 va vb vc) := hS3
    have e6 := put3_box HHe.out.2.2 .nilIface (.iface T2 x2) .nilIface
    have b6 := put3_below HHe.out.1 (g := w.heap.size + 1) (by omega) HHe.out.1.size .nilIface (.iface T2 x2) .nilIface
    go_wp2_with fail
    change bodyPost _ _ _ _ _ (put3 w13 (w.heap.size + 1) _ _ _)
    generalize put3 w13 (w.heap.size + 1) .nilIface (.iface T2 x2) .nilIface = W at *
    exact bodyPost_ret (v := .agg #[.nilIface, (.iface T2 x2), .nilIface]) (by simp [results, Tryz.results71, go_sem, e6.c0, e6.c1, e6.c2]) rfl ⟨rfl, b6⟩
set_option maxRecDepth 100000 in
set_option maxHeartbeats 4000000 in
theorem placeUnder_c3 (va vb vc : Value) (T1 T2 T3 : TypeId) (x1 x2 x3 : Value) (p1 p2 p3 : Option Addr) (k1 k2 k3 c1 c2 c3 : Nat) (nm : ByteArray) (w : World) (va' : IsV va) (vb' : IsV vb) (vc' : IsV vc)
    (hF1 : ∀ w1, Calls Tryz.prog 112 #[va] w1 fun e w' => e = .returned (.slice p1 k1 c1) ∧ w' = w1) (hF2 : ∀ w1, Calls Tryz.prog 112 #[vb] w1 fun e w' => e = .returned (.slice p2 k2 c2) ∧ w' = w1) (hF3 : ∀ w1, Calls Tryz.prog 112 #[vc] w1 fun e w' => e = .returned (.slice p3 k3 c3) ∧ w' = w1)
    (hU1 : ∀ w1, Below w.heap.size w w1 → Calls Tryz.prog 58 #[.slice p1 k1 c1, .string nm] w1 fun e w' => e = .returned .nilIface ∧ Below w1.heap.size w1 w') (hU2 : ∀ w1, Below w.heap.size w w1 → Calls Tryz.prog 58 #[.slice p2 k2 c2, .string nm] w1 fun e w' => e = .returned (.iface T2 x2) ∧ Below w1.heap.size w1 w') (hU3 : ∀ w1, Below w.heap.size w w1 → Calls Tryz.prog 58 #[.slice p3 k3 c3, .string nm] w1 fun e w' => e = .returned (.iface T3 x3) ∧ Below w1.heap.size w1 w') :
    Calls Tryz.prog 71 #[.agg #[va, vb, vc], .string nm] w fun e w' => e = .returned (.agg #[.nilIface, (.iface T2 x2), (.iface T3 x3)]) ∧ Below w.heap.size w w' := by
  have HF1 : Hid (∀ w1, Calls Tryz.prog 112 #[va] w1 fun e w' => e = .returned (.slice p1 k1 c1) ∧ w' = w1) := hF1
  have HF2 : Hid (∀ w1, Calls Tryz.prog 112 #[vb] w1 fun e w' => e = .returned (.slice p2 k2 c2) ∧ w' = w1) := hF2
  have HF3 : Hid (∀ w1, Calls Tryz.prog 112 #[vc] w1 fun e w' => e = .returned (.slice p3 k3 c3) ∧ w' = w1) := hF3
  have HU1 : Hid (∀ w1, PSt w w1 va vb vc → Calls Tryz.prog 58 #[.slice p1 k1 c1, .string nm] w1 fun e w' => e = .returned .nilIface ∧ PSt w w' va vb vc) := fun w1 h => (hU1 w1 h.1).mono fun e w' ⟨he, b⟩ => ⟨he, h.1.trans (b.mono h.1.size), h.2.1.below b, h.2.2.below b⟩
  have HU2 : Hid (∀ w1, PSt w w1 va vb vc → Calls Tryz.prog 58 #[.slice p2 k2 c2, .string nm] w1 fun e w' => e = .returned (.iface T2 x2) ∧ PSt w w' va vb vc) := fun w1 h => (hU2 w1 h.1).mono fun e w' ⟨he, b⟩ => ⟨he, h.1.trans (b.mono h.1.size), h.2.1.below b, h.2.2.below b⟩
  have HU3 : Hid (∀ w1, PSt w w1 va vb vc → Calls Tryz.prog 58 #[.slice p3 k3 c3, .string nm] w1 fun e w' => e = .returned (.iface T3 x3) ∧ PSt w w' va vb vc) := fun w1 h => (hU3 w1 h.1).mono fun e w' ⟨he, b⟩ => ⟨he, h.1.trans (b.mono h.1.size), h.2.1.below b, h.2.2.below b⟩
  have HP0 : Hid (PSt w ((w.alloc (.cells #[va, vb, vc] 88)).alloc (.cells #[.nilIface, .nilIface, .nilIface] 88)) va vb vc) := by
    refine ⟨((Below.refl _ _).alloc (Nat.le_refl _) _).alloc (by simp) _, (box3_new w _ _ _).alloc _, ?_⟩
    have h9 := box3_new (w.alloc (.cells #[va, vb, vc] 88)) .nilIface .nilIface .nilIface
    have e9 : (w.alloc (.cells #[va, vb, vc] 88)).heap.size = w.heap.size + 1 := by simp
    rw [e9] at h9
    exact h9
  clear hF1 hF2 hF3 hU1 hU2 hU3
  go_enter Tryz.func71, Tryz.ntmps71
  go_wp2_with fail
  obtain ⟨w0, hw0⟩ : ∃ w0, w0 = (w.alloc (.cells #[va, vb, vc] 88)).alloc (.cells #[.nilIface, .nilIface, .nilIface] 88) := ⟨_, rfl⟩
  rw [← hw0] at HP0 ⊢
  clear hw0
  have hS0 : PSt w w0.drew va vb vc := ⟨HP0.out.1.drew, HP0.out.2.1, HP0.out.2.2⟩
  go_region_held3 (fun w' => w'.cell? ⟨w.heap.size, 0, none⟩ = some va ∧ w'.cell? ⟨w.heap.size, 1, none⟩ = some vb ∧ w'.cell? ⟨w.heap.size, 2, none⟩ = some vc) (first | assumption | exact pst_cells (by assumption) | go_keep)
    (first
      | (go_at_call_of 112 va; refine Calls.mono (HF1.out _) ?_; rintro e _ ⟨rfl, rfl⟩)
      | (go_at_call_of 112 vb; refine Calls.mono (HF2.out _) ?_; rintro e _ ⟨rfl, rfl⟩)
      | (go_at_call_of 112 vc; refine Calls.mono (HF3.out _) ?_; rintro e _ ⟨rfl, rfl⟩)
      | (go_at_call_of 58 k1; refine Calls.mono (HU1.out _ (by assumption)) ?_; rintro e w11 ⟨rfl, hS1⟩)
      | (go_at_call_of 58 k2; refine Calls.mono (HU2.out _ (by assumption)) ?_; rintro e w12 ⟨rfl, hS2⟩)
      | (go_at_call_of 58 k3; refine Calls.mono (HU3.out _ (by assumption)) ?_; rintro e w13 ⟨rfl, hS3⟩; have z0 := hS3.2.2.c0; have z1 := hS3.2.2.c1; have z2 := hS3.2.2.c2; have f0 := hS3.2.2.free 0; have f1 := hS3.2.2.free 1; have f2 := hS3.2.2.free 2))
  all_goals
    have HHe : Hid (PSt w w13 va vb vc) := hS3
    have e6 := put3_box HHe.out.2.2 .nilIface (.iface T2 x2) (.iface T3 x3)
    have b6 := put3_below HHe.out.1 (g := w.heap.size + 1) (by omega) HHe.out.1.size .nilIface (.iface T2 x2) (.iface T3 x3)
    go_wp2_with fail
    change bodyPost _ _ _ _ _ (put3 w13 (w.heap.size + 1) _ _ _)
    generalize put3 w13 (w.heap.size + 1) .nilIface (.iface T2 x2) (.iface T3 x3) = W at *
    exact bodyPost_ret (v := .agg #[.nilIface, (.iface T2 x2), (.iface T3 x3)]) (by simp [results, Tryz.results71, go_sem, e6.c0, e6.c1, e6.c2]) rfl ⟨rfl, b6⟩
set_option maxRecDepth 100000 in
set_option maxHeartbeats 4000000 in
theorem placeUnder_c4 (va vb vc : Value) (T1 T2 T3 : TypeId) (x1 x2 x3 : Value) (p1 p2 p3 : Option Addr) (k1 k2 k3 c1 c2 c3 : Nat) (nm : ByteArray) (w : World) (va' : IsV va) (vb' : IsV vb) (vc' : IsV vc)
    (hF1 : ∀ w1, Calls Tryz.prog 112 #[va] w1 fun e w' => e = .returned (.slice p1 k1 c1) ∧ w' = w1) (hF2 : ∀ w1, Calls Tryz.prog 112 #[vb] w1 fun e w' => e = .returned (.slice p2 k2 c2) ∧ w' = w1) (hF3 : ∀ w1, Calls Tryz.prog 112 #[vc] w1 fun e w' => e = .returned (.slice p3 k3 c3) ∧ w' = w1)
    (hU1 : ∀ w1, Below w.heap.size w w1 → Calls Tryz.prog 58 #[.slice p1 k1 c1, .string nm] w1 fun e w' => e = .returned (.iface T1 x1) ∧ Below w1.heap.size w1 w') (hU2 : ∀ w1, Below w.heap.size w w1 → Calls Tryz.prog 58 #[.slice p2 k2 c2, .string nm] w1 fun e w' => e = .returned .nilIface ∧ Below w1.heap.size w1 w') (hU3 : ∀ w1, Below w.heap.size w w1 → Calls Tryz.prog 58 #[.slice p3 k3 c3, .string nm] w1 fun e w' => e = .returned .nilIface ∧ Below w1.heap.size w1 w') :
    Calls Tryz.prog 71 #[.agg #[va, vb, vc], .string nm] w fun e w' => e = .returned (.agg #[(.iface T1 x1), .nilIface, .nilIface]) ∧ Below w.heap.size w w' := by
  have HF1 : Hid (∀ w1, Calls Tryz.prog 112 #[va] w1 fun e w' => e = .returned (.slice p1 k1 c1) ∧ w' = w1) := hF1
  have HF2 : Hid (∀ w1, Calls Tryz.prog 112 #[vb] w1 fun e w' => e = .returned (.slice p2 k2 c2) ∧ w' = w1) := hF2
  have HF3 : Hid (∀ w1, Calls Tryz.prog 112 #[vc] w1 fun e w' => e = .returned (.slice p3 k3 c3) ∧ w' = w1) := hF3
  have HU1 : Hid (∀ w1, PSt w w1 va vb vc → Calls Tryz.prog 58 #[.slice p1 k1 c1, .string nm] w1 fun e w' => e = .returned (.iface T1 x1) ∧ PSt w w' va vb vc) := fun w1 h => (hU1 w1 h.1).mono fun e w' ⟨he, b⟩ => ⟨he, h.1.trans (b.mono h.1.size), h.2.1.below b, h.2.2.below b⟩
  have HU2 : Hid (∀ w1, PSt w w1 va vb vc → Calls Tryz.prog 58 #[.slice p2 k2 c2, .string nm] w1 fun e w' => e = .returned .nilIface ∧ PSt w w' va vb vc) := fun w1 h => (hU2 w1 h.1).mono fun e w' ⟨he, b⟩ => ⟨he, h.1.trans (b.mono h.1.size), h.2.1.below b, h.2.2.below b⟩
  have HU3 : Hid (∀ w1, PSt w w1 va vb vc → Calls Tryz.prog 58 #[.slice p3 k3 c3, .string nm] w1 fun e w' => e = .returned .nilIface ∧ PSt w w' va vb vc) := fun w1 h => (hU3 w1 h.1).mono fun e w' ⟨he, b⟩ => ⟨he, h.1.trans (b.mono h.1.size), h.2.1.below b, h.2.2.below b⟩
  have HP0 : Hid (PSt w ((w.alloc (.cells #[va, vb, vc] 88)).alloc (.cells #[.nilIface, .nilIface, .nilIface] 88)) va vb vc) := by
    refine ⟨((Below.refl _ _).alloc (Nat.le_refl _) _).alloc (by simp) _, (box3_new w _ _ _).alloc _, ?_⟩
    have h9 := box3_new (w.alloc (.cells #[va, vb, vc] 88)) .nilIface .nilIface .nilIface
    have e9 : (w.alloc (.cells #[va, vb, vc] 88)).heap.size = w.heap.size + 1 := by simp
    rw [e9] at h9
    exact h9
  clear hF1 hF2 hF3 hU1 hU2 hU3
  go_enter Tryz.func71, Tryz.ntmps71
  go_wp2_with fail
  obtain ⟨w0, hw0⟩ : ∃ w0, w0 = (w.alloc (.cells #[va, vb, vc] 88)).alloc (.cells #[.nilIface, .nilIface, .nilIface] 88) := ⟨_, rfl⟩
  rw [← hw0] at HP0 ⊢
  clear hw0
  have hS0 : PSt w w0.drew va vb vc := ⟨HP0.out.1.drew, HP0.out.2.1, HP0.out.2.2⟩
  go_region_held3 (fun w' => w'.cell? ⟨w.heap.size, 0, none⟩ = some va ∧ w'.cell? ⟨w.heap.size, 1, none⟩ = some vb ∧ w'.cell? ⟨w.heap.size, 2, none⟩ = some vc) (first | assumption | exact pst_cells (by assumption) | go_keep)
    (first
      | (go_at_call_of 112 va; refine Calls.mono (HF1.out _) ?_; rintro e _ ⟨rfl, rfl⟩)
      | (go_at_call_of 112 vb; refine Calls.mono (HF2.out _) ?_; rintro e _ ⟨rfl, rfl⟩)
      | (go_at_call_of 112 vc; refine Calls.mono (HF3.out _) ?_; rintro e _ ⟨rfl, rfl⟩)
      | (go_at_call_of 58 k1; refine Calls.mono (HU1.out _ (by assumption)) ?_; rintro e w11 ⟨rfl, hS1⟩)
      | (go_at_call_of 58 k2; refine Calls.mono (HU2.out _ (by assumption)) ?_; rintro e w12 ⟨rfl, hS2⟩)
      | (go_at_call_of 58 k3; refine Calls.mono (HU3.out _ (by assumption)) ?_; rintro e w13 ⟨rfl, hS3⟩; have z0 := hS3.2.2.c0; have z1 := hS3.2.2.c1; have z2 := hS3.2.2.c2; have f0 := hS3.2.2.free 0; have f1 := hS3.2.2.free 1; have f2 := hS3.2.2.free 2))
  all_goals
    have HHe : Hid (PSt w w13 va vb vc) := hS3
    have e6 := put3_box HHe.out.2.2 (.iface T1 x1) .nilIface .nilIface
    have b6 := put3_below HHe.out.1 (g := w.heap.size + 1) (by omega) HHe.out.1.size (.iface T1 x1) .nilIface .nilIface
    go_wp2_with fail
    change bodyPost _ _ _ _ _ (put3 w13 (w.heap.size + 1) _ _ _)
    generalize put3 w13 (w.heap.size + 1) (.iface T1 x1) .nilIface .nilIface = W at *
    exact bodyPost_ret (v := .agg #[(.iface T1 x1), .nilIface, .nilIface]) (by simp [results, Tryz.results71, go_sem, e6.c0, e6.c1, e6.c2]) rfl ⟨rfl, b6⟩
set_option maxRecDepth 100000 in
set_option maxHeartbeats 4000000 in
theorem placeUnder_c5 (va vb vc : Value) (T1 T2 T3 : TypeId) (x1 x2 x3 : Value) (p1 p2 p3 : Option Addr) (k1 k2 k3 c1 c2 c3 : Nat) (nm : ByteArray) (w : World) (va' : IsV va) (vb' : IsV vb) (vc' : IsV vc)
    (hF1 : ∀ w1, Calls Tryz.prog 112 #[va] w1 fun e w' => e = .returned (.slice p1 k1 c1) ∧ w' = w1) (hF2 : ∀ w1, Calls Tryz.prog 112 #[vb] w1 fun e w' => e = .returned (.slice p2 k2 c2) ∧ w' = w1) (hF3 : ∀ w1, Calls Tryz.prog 112 #[vc] w1 fun e w' => e = .returned (.slice p3 k3 c3) ∧ w' = w1)
    (hU1 : ∀ w1, Below w.heap.size w w1 → Calls Tryz.prog 58 #[.slice p1 k1 c1, .string nm] w1 fun e w' => e = .returned (.iface T1 x1) ∧ Below w1.heap.size w1 w') (hU2 : ∀ w1, Below w.heap.size w w1 → Calls Tryz.prog 58 #[.slice p2 k2 c2, .string nm] w1 fun e w' => e = .returned .nilIface ∧ Below w1.heap.size w1 w') (hU3 : ∀ w1, Below w.heap.size w w1 → Calls Tryz.prog 58 #[.slice p3 k3 c3, .string nm] w1 fun e w' => e = .returned (.iface T3 x3) ∧ Below w1.heap.size w1 w') :
    Calls Tryz.prog 71 #[.agg #[va, vb, vc], .string nm] w fun e w' => e = .returned (.agg #[(.iface T1 x1), .nilIface, (.iface T3 x3)]) ∧ Below w.heap.size w w' := by
  have HF1 : Hid (∀ w1, Calls Tryz.prog 112 #[va] w1 fun e w' => e = .returned (.slice p1 k1 c1) ∧ w' = w1) := hF1
  have HF2 : Hid (∀ w1, Calls Tryz.prog 112 #[vb] w1 fun e w' => e = .returned (.slice p2 k2 c2) ∧ w' = w1) := hF2
  have HF3 : Hid (∀ w1, Calls Tryz.prog 112 #[vc] w1 fun e w' => e = .returned (.slice p3 k3 c3) ∧ w' = w1) := hF3
  have HU1 : Hid (∀ w1, PSt w w1 va vb vc → Calls Tryz.prog 58 #[.slice p1 k1 c1, .string nm] w1 fun e w' => e = .returned (.iface T1 x1) ∧ PSt w w' va vb vc) := fun w1 h => (hU1 w1 h.1).mono fun e w' ⟨he, b⟩ => ⟨he, h.1.trans (b.mono h.1.size), h.2.1.below b, h.2.2.below b⟩
  have HU2 : Hid (∀ w1, PSt w w1 va vb vc → Calls Tryz.prog 58 #[.slice p2 k2 c2, .string nm] w1 fun e w' => e = .returned .nilIface ∧ PSt w w' va vb vc) := fun w1 h => (hU2 w1 h.1).mono fun e w' ⟨he, b⟩ => ⟨he, h.1.trans (b.mono h.1.size), h.2.1.below b, h.2.2.below b⟩
  have HU3 : Hid (∀ w1, PSt w w1 va vb vc → Calls Tryz.prog 58 #[.slice p3 k3 c3, .string nm] w1 fun e w' => e = .returned (.iface T3 x3) ∧ PSt w w' va vb vc) := fun w1 h => (hU3 w1 h.1).mono fun e w' ⟨he, b⟩ => ⟨he, h.1.trans (b.mono h.1.size), h.2.1.below b, h.2.2.below b⟩
  have HP0 : Hid (PSt w ((w.alloc (.cells #[va, vb, vc] 88)).alloc (.cells #[.nilIface, .nilIface, .nilIface] 88)) va vb vc) := by
    refine ⟨((Below.refl _ _).alloc (Nat.le_refl _) _).alloc (by simp) _, (box3_new w _ _ _).alloc _, ?_⟩
    have h9 := box3_new (w.alloc (.cells #[va, vb, vc] 88)) .nilIface .nilIface .nilIface
    have e9 : (w.alloc (.cells #[va, vb, vc] 88)).heap.size = w.heap.size + 1 := by simp
    rw [e9] at h9
    exact h9
  clear hF1 hF2 hF3 hU1 hU2 hU3
  go_enter Tryz.func71, Tryz.ntmps71
  go_wp2_with fail
  obtain ⟨w0, hw0⟩ : ∃ w0, w0 = (w.alloc (.cells #[va, vb, vc] 88)).alloc (.cells #[.nilIface, .nilIface, .nilIface] 88) := ⟨_, rfl⟩
  rw [← hw0] at HP0 ⊢
  clear hw0
  have hS0 : PSt w w0.drew va vb vc := ⟨HP0.out.1.drew, HP0.out.2.1, HP0.out.2.2⟩
  go_region_held3 (fun w' => w'.cell? ⟨w.heap.size, 0, none⟩ = some va ∧ w'.cell? ⟨w.heap.size, 1, none⟩ = some vb ∧ w'.cell? ⟨w.heap.size, 2, none⟩ = some vc) (first | assumption | exact pst_cells (by assumption) | go_keep)
    (first
      | (go_at_call_of 112 va; refine Calls.mono (HF1.out _) ?_; rintro e _ ⟨rfl, rfl⟩)
      | (go_at_call_of 112 vb; refine Calls.mono (HF2.out _) ?_; rintro e _ ⟨rfl, rfl⟩)
      | (go_at_call_of 112 vc; refine Calls.mono (HF3.out _) ?_; rintro e _ ⟨rfl, rfl⟩)
      | (go_at_call_of 58 k1; refine Calls.mono (HU1.out _ (by assumption)) ?_; rintro e w11 ⟨rfl, hS1⟩)
      | (go_at_call_of 58 k2; refine Calls.mono (HU2.out _ (by assumption)) ?_; rintro e w12 ⟨rfl, hS2⟩)
      | (go_at_call_of 58 k3; refine Calls.mono (HU3.out _ (by assumption)) ?_; rintro e w13 ⟨rfl, hS3⟩; have z0 := hS3.2.2.c0; have z1 := hS3.2.2.c1; have z2 := hS3.2.2.c2; have f0 := hS3.2.2.free 0; have f1 := hS3.2.2.free 1; have f2 := hS3.2.2.free 2))
  all_goals
    have HHe : Hid (PSt w w13 va vb vc) := hS3
    have e6 := put3_box HHe.out.2.2 (.iface T1 x1) .nilIface (.iface T3 x3)
    have b6 := put3_below HHe.out.1 (g := w.heap.size + 1) (by omega) HHe.out.1.size (.iface T1 x1) .nilIface (.iface T3 x3)
    go_wp2_with fail
    change bodyPost _ _ _ _ _ (put3 w13 (w.heap.size + 1) _ _ _)
    generalize put3 w13 (w.heap.size + 1) (.iface T1 x1) .nilIface (.iface T3 x3) = W at *
    exact bodyPost_ret (v := .agg #[(.iface T1 x1), .nilIface, (.iface T3 x3)]) (by simp [results, Tryz.results71, go_sem, e6.c0, e6.c1, e6.c2]) rfl ⟨rfl, b6⟩
set_option maxRecDepth 100000 in
set_option maxHeartbeats 4000000 in
theorem placeUnder_c6 (va vb vc : Value) (T1 T2 T3 : TypeId) (x1 x2 x3 : Value) (p1 p2 p3 : Option Addr) (k1 k2 k3 c1 c2 c3 : Nat) (nm : ByteArray) (w : World) (va' : IsV va) (vb' : IsV vb) (vc' : IsV vc)
    (hF1 : ∀ w1, Calls Tryz.prog 112 #[va] w1 fun e w' => e = .returned (.slice p1 k1 c1) ∧ w' = w1) (hF2 : ∀ w1, Calls Tryz.prog 112 #[vb] w1 fun e w' => e = .returned (.slice p2 k2 c2) ∧ w' = w1) (hF3 : ∀ w1, Calls Tryz.prog 112 #[vc] w1 fun e w' => e = .returned (.slice p3 k3 c3) ∧ w' = w1)
    (hU1 : ∀ w1, Below w.heap.size w w1 → Calls Tryz.prog 58 #[.slice p1 k1 c1, .string nm] w1 fun e w' => e = .returned (.iface T1 x1) ∧ Below w1.heap.size w1 w') (hU2 : ∀ w1, Below w.heap.size w w1 → Calls Tryz.prog 58 #[.slice p2 k2 c2, .string nm] w1 fun e w' => e = .returned (.iface T2 x2) ∧ Below w1.heap.size w1 w') (hU3 : ∀ w1, Below w.heap.size w w1 → Calls Tryz.prog 58 #[.slice p3 k3 c3, .string nm] w1 fun e w' => e = .returned .nilIface ∧ Below w1.heap.size w1 w') :
    Calls Tryz.prog 71 #[.agg #[va, vb, vc], .string nm] w fun e w' => e = .returned (.agg #[(.iface T1 x1), (.iface T2 x2), .nilIface]) ∧ Below w.heap.size w w' := by
  have HF1 : Hid (∀ w1, Calls Tryz.prog 112 #[va] w1 fun e w' => e = .returned (.slice p1 k1 c1) ∧ w' = w1) := hF1
  have HF2 : Hid (∀ w1, Calls Tryz.prog 112 #[vb] w1 fun e w' => e = .returned (.slice p2 k2 c2) ∧ w' = w1) := hF2
  have HF3 : Hid (∀ w1, Calls Tryz.prog 112 #[vc] w1 fun e w' => e = .returned (.slice p3 k3 c3) ∧ w' = w1) := hF3
  have HU1 : Hid (∀ w1, PSt w w1 va vb vc → Calls Tryz.prog 58 #[.slice p1 k1 c1, .string nm] w1 fun e w' => e = .returned (.iface T1 x1) ∧ PSt w w' va vb vc) := fun w1 h => (hU1 w1 h.1).mono fun e w' ⟨he, b⟩ => ⟨he, h.1.trans (b.mono h.1.size), h.2.1.below b, h.2.2.below b⟩
  have HU2 : Hid (∀ w1, PSt w w1 va vb vc → Calls Tryz.prog 58 #[.slice p2 k2 c2, .string nm] w1 fun e w' => e = .returned (.iface T2 x2) ∧ PSt w w' va vb vc) := fun w1 h => (hU2 w1 h.1).mono fun e w' ⟨he, b⟩ => ⟨he, h.1.trans (b.mono h.1.size), h.2.1.below b, h.2.2.below b⟩
  have HU3 : Hid (∀ w1, PSt w w1 va vb vc → Calls Tryz.prog 58 #[.slice p3 k3 c3, .string nm] w1 fun e w' => e = .returned .nilIface ∧ PSt w w' va vb vc) := fun w1 h => (hU3 w1 h.1).mono fun e w' ⟨he, b⟩ => ⟨he, h.1.trans (b.mono h.1.size), h.2.1.below b, h.2.2.below b⟩
  have HP0 : Hid (PSt w ((w.alloc (.cells #[va, vb, vc] 88)).alloc (.cells #[.nilIface, .nilIface, .nilIface] 88)) va vb vc) := by
    refine ⟨((Below.refl _ _).alloc (Nat.le_refl _) _).alloc (by simp) _, (box3_new w _ _ _).alloc _, ?_⟩
    have h9 := box3_new (w.alloc (.cells #[va, vb, vc] 88)) .nilIface .nilIface .nilIface
    have e9 : (w.alloc (.cells #[va, vb, vc] 88)).heap.size = w.heap.size + 1 := by simp
    rw [e9] at h9
    exact h9
  clear hF1 hF2 hF3 hU1 hU2 hU3
  go_enter Tryz.func71, Tryz.ntmps71
  go_wp2_with fail
  obtain ⟨w0, hw0⟩ : ∃ w0, w0 = (w.alloc (.cells #[va, vb, vc] 88)).alloc (.cells #[.nilIface, .nilIface, .nilIface] 88) := ⟨_, rfl⟩
  rw [← hw0] at HP0 ⊢
  clear hw0
  have hS0 : PSt w w0.drew va vb vc := ⟨HP0.out.1.drew, HP0.out.2.1, HP0.out.2.2⟩
  go_region_held3 (fun w' => w'.cell? ⟨w.heap.size, 0, none⟩ = some va ∧ w'.cell? ⟨w.heap.size, 1, none⟩ = some vb ∧ w'.cell? ⟨w.heap.size, 2, none⟩ = some vc) (first | assumption | exact pst_cells (by assumption) | go_keep)
    (first
      | (go_at_call_of 112 va; refine Calls.mono (HF1.out _) ?_; rintro e _ ⟨rfl, rfl⟩)
      | (go_at_call_of 112 vb; refine Calls.mono (HF2.out _) ?_; rintro e _ ⟨rfl, rfl⟩)
      | (go_at_call_of 112 vc; refine Calls.mono (HF3.out _) ?_; rintro e _ ⟨rfl, rfl⟩)
      | (go_at_call_of 58 k1; refine Calls.mono (HU1.out _ (by assumption)) ?_; rintro e w11 ⟨rfl, hS1⟩)
      | (go_at_call_of 58 k2; refine Calls.mono (HU2.out _ (by assumption)) ?_; rintro e w12 ⟨rfl, hS2⟩)
      | (go_at_call_of 58 k3; refine Calls.mono (HU3.out _ (by assumption)) ?_; rintro e w13 ⟨rfl, hS3⟩; have z0 := hS3.2.2.c0; have z1 := hS3.2.2.c1; have z2 := hS3.2.2.c2; have f0 := hS3.2.2.free 0; have f1 := hS3.2.2.free 1; have f2 := hS3.2.2.free 2))
  all_goals
    have HHe : Hid (PSt w w13 va vb vc) := hS3
    have e6 := put3_box HHe.out.2.2 (.iface T1 x1) (.iface T2 x2) .nilIface
    have b6 := put3_below HHe.out.1 (g := w.heap.size + 1) (by omega) HHe.out.1.size (.iface T1 x1) (.iface T2 x2) .nilIface
    go_wp2_with fail
    change bodyPost _ _ _ _ _ (put3 w13 (w.heap.size + 1) _ _ _)
    generalize put3 w13 (w.heap.size + 1) (.iface T1 x1) (.iface T2 x2) .nilIface = W at *
    exact bodyPost_ret (v := .agg #[(.iface T1 x1), (.iface T2 x2), .nilIface]) (by simp [results, Tryz.results71, go_sem, e6.c0, e6.c1, e6.c2]) rfl ⟨rfl, b6⟩
set_option maxRecDepth 100000 in
set_option maxHeartbeats 4000000 in
theorem placeUnder_c7 (va vb vc : Value) (T1 T2 T3 : TypeId) (x1 x2 x3 : Value) (p1 p2 p3 : Option Addr) (k1 k2 k3 c1 c2 c3 : Nat) (nm : ByteArray) (w : World) (va' : IsV va) (vb' : IsV vb) (vc' : IsV vc)
    (hF1 : ∀ w1, Calls Tryz.prog 112 #[va] w1 fun e w' => e = .returned (.slice p1 k1 c1) ∧ w' = w1) (hF2 : ∀ w1, Calls Tryz.prog 112 #[vb] w1 fun e w' => e = .returned (.slice p2 k2 c2) ∧ w' = w1) (hF3 : ∀ w1, Calls Tryz.prog 112 #[vc] w1 fun e w' => e = .returned (.slice p3 k3 c3) ∧ w' = w1)
    (hU1 : ∀ w1, Below w.heap.size w w1 → Calls Tryz.prog 58 #[.slice p1 k1 c1, .string nm] w1 fun e w' => e = .returned (.iface T1 x1) ∧ Below w1.heap.size w1 w') (hU2 : ∀ w1, Below w.heap.size w w1 → Calls Tryz.prog 58 #[.slice p2 k2 c2, .string nm] w1 fun e w' => e = .returned (.iface T2 x2) ∧ Below w1.heap.size w1 w') (hU3 : ∀ w1, Below w.heap.size w w1 → Calls Tryz.prog 58 #[.slice p3 k3 c3, .string nm] w1 fun e w' => e = .returned (.iface T3 x3) ∧ Below w1.heap.size w1 w') :
    Calls Tryz.prog 71 #[.agg #[va, vb, vc], .string nm] w fun e w' => e = .returned (.agg #[(.iface T1 x1), (.iface T2 x2), (.iface T3 x3)]) ∧ Below w.heap.size w w' := by
  have HF1 : Hid (∀ w1, Calls Tryz.prog 112 #[va] w1 fun e w' => e = .returned (.slice p1 k1 c1) ∧ w' = w1) := hF1
  have HF2 : Hid (∀ w1, Calls Tryz.prog 112 #[vb] w1 fun e w' => e = .returned (.slice p2 k2 c2) ∧ w' = w1) := hF2
  have HF3 : Hid (∀ w1, Calls Tryz.prog 112 #[vc] w1 fun e w' => e = .returned (.slice p3 k3 c3) ∧ w' = w1) := hF3
  have HU1 : Hid (∀ w1, PSt w w1 va vb vc → Calls Tryz.prog 58 #[.slice p1 k1 c1, .string nm] w1 fun e w' => e = .returned (.iface T1 x1) ∧ PSt w w' va vb vc) := fun w1 h => (hU1 w1 h.1).mono fun e w' ⟨he, b⟩ => ⟨he, h.1.trans (b.mono h.1.size), h.2.1.below b, h.2.2.below b⟩
  have HU2 : Hid (∀ w1, PSt w w1 va vb vc → Calls Tryz.prog 58 #[.slice p2 k2 c2, .string nm] w1 fun e w' => e = .returned (.iface T2 x2) ∧ PSt w w' va vb vc) := fun w1 h => (hU2 w1 h.1).mono fun e w' ⟨he, b⟩ => ⟨he, h.1.trans (b.mono h.1.size), h.2.1.below b, h.2.2.below b⟩
  have HU3 : Hid (∀ w1, PSt w w1 va vb vc → Calls Tryz.prog 58 #[.slice p3 k3 c3, .string nm] w1 fun e w' => e = .returned (.iface T3 x3) ∧ PSt w w' va vb vc) := fun w1 h => (hU3 w1 h.1).mono fun e w' ⟨he, b⟩ => ⟨he, h.1.trans (b.mono h.1.size), h.2.1.below b, h.2.2.below b⟩
  have HP0 : Hid (PSt w ((w.alloc (.cells #[va, vb, vc] 88)).alloc (.cells #[.nilIface, .nilIface, .nilIface] 88)) va vb vc) := by
    refine ⟨((Below.refl _ _).alloc (Nat.le_refl _) _).alloc (by simp) _, (box3_new w _ _ _).alloc _, ?_⟩
    have h9 := box3_new (w.alloc (.cells #[va, vb, vc] 88)) .nilIface .nilIface .nilIface
    have e9 : (w.alloc (.cells #[va, vb, vc] 88)).heap.size = w.heap.size + 1 := by simp
    rw [e9] at h9
    exact h9
  clear hF1 hF2 hF3 hU1 hU2 hU3
  go_enter Tryz.func71, Tryz.ntmps71
  go_wp2_with fail
  obtain ⟨w0, hw0⟩ : ∃ w0, w0 = (w.alloc (.cells #[va, vb, vc] 88)).alloc (.cells #[.nilIface, .nilIface, .nilIface] 88) := ⟨_, rfl⟩
  rw [← hw0] at HP0 ⊢
  clear hw0
  have hS0 : PSt w w0.drew va vb vc := ⟨HP0.out.1.drew, HP0.out.2.1, HP0.out.2.2⟩
  go_region_held3 (fun w' => w'.cell? ⟨w.heap.size, 0, none⟩ = some va ∧ w'.cell? ⟨w.heap.size, 1, none⟩ = some vb ∧ w'.cell? ⟨w.heap.size, 2, none⟩ = some vc) (first | assumption | exact pst_cells (by assumption) | go_keep)
    (first
      | (go_at_call_of 112 va; refine Calls.mono (HF1.out _) ?_; rintro e _ ⟨rfl, rfl⟩)
      | (go_at_call_of 112 vb; refine Calls.mono (HF2.out _) ?_; rintro e _ ⟨rfl, rfl⟩)
      | (go_at_call_of 112 vc; refine Calls.mono (HF3.out _) ?_; rintro e _ ⟨rfl, rfl⟩)
      | (go_at_call_of 58 k1; refine Calls.mono (HU1.out _ (by assumption)) ?_; rintro e w11 ⟨rfl, hS1⟩)
      | (go_at_call_of 58 k2; refine Calls.mono (HU2.out _ (by assumption)) ?_; rintro e w12 ⟨rfl, hS2⟩)
      | (go_at_call_of 58 k3; refine Calls.mono (HU3.out _ (by assumption)) ?_; rintro e w13 ⟨rfl, hS3⟩; have z0 := hS3.2.2.c0; have z1 := hS3.2.2.c1; have z2 := hS3.2.2.c2; have f0 := hS3.2.2.free 0; have f1 := hS3.2.2.free 1; have f2 := hS3.2.2.free 2))
  all_goals
    have HHe : Hid (PSt w w13 va vb vc) := hS3
    have e6 := put3_box HHe.out.2.2 (.iface T1 x1) (.iface T2 x2) (.iface T3 x3)
    have b6 := put3_below HHe.out.1 (g := w.heap.size + 1) (by omega) HHe.out.1.size (.iface T1 x1) (.iface T2 x2) (.iface T3 x3)
    go_wp2_with fail
    change bodyPost _ _ _ _ _ (put3 w13 (w.heap.size + 1) _ _ _)
    generalize put3 w13 (w.heap.size + 1) (.iface T1 x1) (.iface T2 x2) (.iface T3 x3) = W at *
    exact bodyPost_ret (v := .agg #[(.iface T1 x1), (.iface T2 x2), (.iface T3 x3)]) (by simp [results, Tryz.results71, go_sem, e6.c0, e6.c1, e6.c2]) rfl ⟨rfl, b6⟩
set_option maxRecDepth 100000 in
set_option maxHeartbeats 4000000 in
theorem placeUnder_gen (va vb vc u1 u2 u3 : Value) (p1 p2 p3 : Option Addr) (k1 k2 k3 c1 c2 c3 : Nat) (nm : ByteArray) (w : World) (i1 : IsV u1) (i2 : IsV u2) (i3 : IsV u3) (va' : IsV va) (vb' : IsV vb) (vc' : IsV vc)
    (hF1 : ∀ w1, Calls Tryz.prog 112 #[va] w1 fun e w' => e = .returned (.slice p1 k1 c1) ∧ w' = w1) (hF2 : ∀ w1, Calls Tryz.prog 112 #[vb] w1 fun e w' => e = .returned (.slice p2 k2 c2) ∧ w' = w1) (hF3 : ∀ w1, Calls Tryz.prog 112 #[vc] w1 fun e w' => e = .returned (.slice p3 k3 c3) ∧ w' = w1)
    (hU1 : ∀ w1, Below w.heap.size w w1 → Calls Tryz.prog 58 #[.slice p1 k1 c1, .string nm] w1 fun e w' => e = .returned u1 ∧ Below w1.heap.size w1 w') (hU2 : ∀ w1, Below w.heap.size w w1 → Calls Tryz.prog 58 #[.slice p2 k2 c2, .string nm] w1 fun e w' => e = .returned u2 ∧ Below w1.heap.size w1 w') (hU3 : ∀ w1, Below w.heap.size w w1 → Calls Tryz.prog 58 #[.slice p3 k3 c3, .string nm] w1 fun e w' => e = .returned u3 ∧ Below w1.heap.size w1 w') :
    Calls Tryz.prog 71 #[.agg #[va, vb, vc], .string nm] w fun e w' => e = .returned (.agg #[u1, u2, u3]) ∧ Below w.heap.size w w' := by
  rcases i1 with rfl | ⟨T1, x1, rfl⟩ <;> rcases i2 with rfl | ⟨T2, x2, rfl⟩ <;> rcases i3 with rfl | ⟨T3, x3, rfl⟩
  · exact placeUnder_c0 va vb vc 0 0 0 .nilIface .nilIface .nilIface p1 p2 p3 k1 k2 k3 c1 c2 c3 nm w va' vb' vc' hF1 hF2 hF3 hU1 hU2 hU3
  · exact placeUnder_c1 va vb vc 0 0 T3 .nilIface .nilIface x3 p1 p2 p3 k1 k2 k3 c1 c2 c3 nm w va' vb' vc' hF1 hF2 hF3 hU1 hU2 hU3
  · exact placeUnder_c2 va vb vc 0 T2 0 .nilIface x2 .nilIface p1 p2 p3 k1 k2 k3 c1 c2 c3 nm w va' vb' vc' hF1 hF2 hF3 hU1 hU2 hU3
  · exact placeUnder_c3 va vb vc 0 T2 T3 .nilIface x2 x3 p1 p2 p3 k1 k2 k3 c1 c2 c3 nm w va' vb' vc' hF1 hF2 hF3 hU1 hU2 hU3
  · exact placeUnder_c4 va vb vc T1 0 0 x1 .nilIface .nilIface p1 p2 p3 k1 k2 k3 c1 c2 c3 nm w va' vb' vc' hF1 hF2 hF3 hU1 hU2 hU3
  · exact placeUnder_c5 va vb vc T1 0 T3 x1 .nilIface x3 p1 p2 p3 k1 k2 k3 c1 c2 c3 nm w va' vb' vc' hF1 hF2 hF3 hU1 hU2 hU3
  · exact placeUnder_c6 va vb vc T1 T2 0 x1 x2 .nilIface p1 p2 p3 k1 k2 k3 c1 c2 c3 nm w va' vb' vc' hF1 hF2 hF3 hU1 hU2 hU3
  · exact placeUnder_c7 va vb vc T1 T2 T3 x1 x2 x3 p1 p2 p3 k1 k2 k3 c1 c2 c3 nm w va' vb' vc' hF1 hF2 hF3 hU1 hU2 hU3
theorem placeUnder_any (av : Nat → Prop) (n : Nat) (a b c : Option (J (n + 1))) (va vb vc : Value) (nm : ByteArray) (w : World) (ha : OptV av w (n + 1) a va) (hb : OptV av w (n + 1) b vb) (hc : OptV av w (n + 1) c vc)
    (ra : Rising (fieldsP a)) (rb : Rising (fieldsP b)) (rc : Rising (fieldsP c)) (la : (fieldsP a).length ≤ 2000) (lb : (fieldsP b).length ≤ 2000) (lc : (fieldsP c).length ≤ 2000) :
    ∃ u1 u2 u3, OptV av w n (look (fieldsP a) nm.data.toList) u1 ∧ OptV av w n (look (fieldsP b) nm.data.toList) u2 ∧ OptV av w n (look (fieldsP c) nm.data.toList) u3 ∧
      ∀ w1, Below w.heap.size w w1 → Calls Tryz.prog 71 #[.agg #[va, vb, vc], .string nm] w1 fun e w' => e = .returned (.agg #[u1, u2, u3]) ∧ Below w1.heap.size w1 w' := by
  obtain ⟨p1, c1, f1, s1⟩ := fieldsOf_val av n a va w ha
  obtain ⟨p2, c2, f2, s2⟩ := fieldsOf_val av n b vb w hb
  obtain ⟨p3, c3, f3, s3⟩ := fieldsOf_val av n c vc w hc
  obtain ⟨u1, o1, g1⟩ := under_val av n _ p1 c1 nm w s1 ra la
  obtain ⟨u2, o2, g2⟩ := under_val av n _ p2 c2 nm w s2 rb lb
  obtain ⟨u3, o3, g3⟩ := under_val av n _ p3 c3 nm w s3 rc lc
  refine ⟨u1, u2, u3, o1, o2, o3, fun w1 b1 => ?_⟩
  exact placeUnder_gen va vb vc u1 u2 u3 p1 p2 p3 _ _ _ c1 c2 c3 nm w1 o1.isV o2.isV o3.isV ha.isV hb.isV hc.isV f1 f2 f3 (fun w2 b2 => g1 w2 (b1.trans (b2.mono b1.size))) (fun w2 b2 => g2 w2 (b1.trans (b2.mono b1.size))) (fun w2 b2 => g3 w2 (b1.trans (b2.mono b1.size)))
end Go.Proofs.YtaogilpkeeigoabGreatDoor
