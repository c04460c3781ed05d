/- Contract over this translation: query.tellPart. -/
import Derived.Test.YtgaopmdpcjcooaaGreatDoorQTell
import Derived.Deep.RegionWith
namespace Go.Proofs.YtgaopmdpcjcooaaGreatDoor
open Go.RowKit
set_option linter.unusedVariables false
set_option linter.unusedSimpArgs false
set_option maxRecDepth 100000 in
set_option maxHeartbeats 4000000 in
theorem tellPart_any (r : Rq) (v : Value) (w : World) (hv : Strs w v r.2.2) (hk : r.1.length ≤ 64) (h8 : r.2.2.length ≤ 8) (hl : ∀ x ∈ r.2.2, x.length ≤ 64) :
    Calls Tryz.prog 53 #[.agg #[.string (Ba r.1), .int .i64 r.2.1, v]] w fun e w' => e = .returned (.string (Ba (tellP r))) ∧ Below w.heap.size w w' := by
  obtain ⟨key, kd, vs⟩ := r
  dsimp only at hv hk h8 hl ⊢
  have HT : Hid (∀ (sg wd : Bs) w1, sg.length ≤ 8 → wd.length ≤ 8 → Below w.heap.size w w1 → Calls Tryz.prog 76 #[v, .string (Ba sg), .string (Ba wd)] w1 fun e w' => e = .returned (.string (Ba (tellV vs sg wd))) ∧ Below w1.heap.size w1 w') := fun sg wd w1 a b hb => tellVals_any v vs sg wd w1 (hv.below hb) h8 hl a b
  obtain ⟨p, c, rfl, hn, hcx⟩ := hv.open
  clear hcx
  have hbk : (Ba key).size ≤ 64 := by rw [ba_size]; exact hk
  have HV : Hid (∀ sg wd : Bs, sg.length ≤ 8 → wd.length ≤ 8 → (Ba (tellV vs sg wd)).size ≤ 600) := fun sg wd a b => by rw [ba_size]; exact tellV_len h8 hl a b
  generalize hvl : vs.length = nv at *
  have HB0 : Hid (Below w.heap.size w (w.alloc (.cells #[.string (Ba key), .int .i64 kd, .slice p nv c] 35))) := (Below.refl _ _).alloc (Nat.le_refl _) _
  clear hv hl hk hvl
  by_cases e1 : kd = 1
  · subst e1
    have HX : Hid (Ba (tellP (key, 1, vs)) = Ba key ++ Ba (tellV vs [61] [105, 110])) := by show _ = _; rw [ba_append]; rfl
    have s3 := HV.out [61] [105, 110] (by decide) (by decide)
    have HC : Hid (∀ w1, Below (w.alloc (.cells #[.string (Ba key), .int .i64 1, .slice p nv c] 35)).heap.size (w.alloc (.cells #[.string (Ba key), .int .i64 1, .slice p nv c] 35)) w1 → Calls Tryz.prog 76 #[.slice p nv c, .string ⟨#[61]⟩, .string ⟨#[105, 110]⟩] w1 fun e w' => e = .returned (.string (Ba (tellV vs [61] [105, 110]))) ∧ w'.cell? ⟨w.heap.size, 0, none⟩ = some (.string (Ba key)) ∧ Hid (Below w.heap.size w w')) := fun w1 hb => (HT.out [61] [105, 110] w1 (by decide) (by decide) (HB0.out.trans (hb.mono HB0.out.size))).mono fun e w' h => ⟨h.1, (box3 (hb.trans (h.2.mono hb.size))).1, HB0.out.trans ((hb.trans (h.2.mono hb.size)).mono HB0.out.size)⟩
    clear HT HV
    generalize Ba (tellP (key, 1, vs)) = res at *
    generalize Ba (tellV vs [61] [105, 110]) = y at *
    generalize Ba key = sk at *
    go_enter Tryz.func53, Tryz.ntmps53
    go_wp2_with fail
    go_region_with (go_at_call 76; refine Calls.mono (HC.out _ ?_) ?_; (first | exact (Below.refl _ _).drew | exact Below.refl _ _); rintro e w1 ⟨rfl, k0, HB1⟩)
    all_goals (go_wp2_with fail)
    all_goals go_ret
    all_goals exact ⟨by rw [HX.out]; rfl, HB1.out⟩
  by_cases e2 : kd = 2
  · subst e2
    have HX : Hid (Ba (tellP (key, 2, vs)) = Ba key ++ Ba (tellV vs [33, 61] [110, 111, 116, 105, 110])) := by show _ = _; rw [ba_append]; rfl
    have s3 := HV.out [33, 61] [110, 111, 116, 105, 110] (by decide) (by decide)
    have HC : Hid (∀ w1, Below (w.alloc (.cells #[.string (Ba key), .int .i64 2, .slice p nv c] 35)).heap.size (w.alloc (.cells #[.string (Ba key), .int .i64 2, .slice p nv c] 35)) w1 → Calls Tryz.prog 76 #[.slice p nv c, .string ⟨#[33, 61]⟩, .string ⟨#[110, 111, 116, 105, 110]⟩] w1 fun e w' => e = .returned (.string (Ba (tellV vs [33, 61] [110, 111, 116, 105, 110]))) ∧ w'.cell? ⟨w.heap.size, 0, none⟩ = some (.string (Ba key)) ∧ Hid (Below w.heap.size w w')) := fun w1 hb => (HT.out [33, 61] [110, 111, 116, 105, 110] w1 (by decide) (by decide) (HB0.out.trans (hb.mono HB0.out.size))).mono fun e w' h => ⟨h.1, (box3 (hb.trans (h.2.mono hb.size))).1, HB0.out.trans ((hb.trans (h.2.mono hb.size)).mono HB0.out.size)⟩
    clear HT HV
    generalize Ba (tellP (key, 2, vs)) = res at *
    generalize Ba (tellV vs [33, 61] [110, 111, 116, 105, 110]) = y at *
    generalize Ba key = sk at *
    go_enter Tryz.func53, Tryz.ntmps53
    go_wp2_with fail
    go_region_with (go_at_call 76; refine Calls.mono (HC.out _ ?_) ?_; (first | exact (Below.refl _ _).drew | exact Below.refl _ _); rintro e w1 ⟨rfl, k0, HB1⟩)
    all_goals (go_wp2_with fail)
    all_goals go_ret
    all_goals exact ⟨by rw [HX.out]; rfl, HB1.out⟩
  by_cases e4 : kd = 4
  · subst e4
    have HX : Hid (Ba (tellP (key, 4, vs)) = ⟨#[33]⟩ ++ Ba key) := by show _ = Ba [33] ++ Ba key; rw [ba_append]; rfl
    clear HT HV
    generalize Ba (tellP (key, 4, vs)) = res at *
    generalize Ba key = sk at *
    go_enter Tryz.func53, Tryz.ntmps53
    go_wp2_with fail
    go_ret
    exact ⟨by rw [HX.out]; rfl, HB0.out⟩
  have HX : Hid (Ba (tellP (key, kd, vs)) = Ba key) := by show _ = _; rw [tellP, if_neg e1, if_neg e2, if_neg e4]
  have b1 : (kd == 1) = false := by simpa using e1
  have b2 : (kd == 2) = false := by simpa using e2
  have b4 : (kd == 4) = false := by simpa using e4
  clear HT HV e1 e2 e4
  generalize Ba (tellP (key, kd, vs)) = res at *
  generalize Ba key = sk at *
  go_enter Tryz.func53, Tryz.ntmps53
  go_wp2_with fail
  go_ret
  exact ⟨by rw [HX.out]; rfl, HB0.out⟩
end Go.Proofs.YtgaopmdpcjcooaaGreatDoor
