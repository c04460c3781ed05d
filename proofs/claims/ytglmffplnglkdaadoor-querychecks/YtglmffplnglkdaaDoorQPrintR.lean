/- Contract over this translation: the document's QueryPrint. -/
import Derived.Test.YtglmffplnglkdaaDoorQPrint
import Derived.Deep.RegionWith
namespace Go.Proofs.YtglmffplnglkdaaDoor
open Go.RowKit
set_option linter.unusedVariables false
set_option linter.unusedSimpArgs false
set_option maxRecDepth 100000 in
set_option maxHeartbeats 8000000 in
theorem printR_any (v : Value) (l : List Rq) (w : World) (hv : Reqs w v l) (hf : ∀ r ∈ l, Fit r) (hR : Room w) :
    Calls Tryd.prog 11 #[v] w fun e w' => e = .returned (.tuple #[.string (Ba (printE l).1), .int .i64 (printE l).2]) ∧ Below w.heap.size w w' := by
  have HCk : Hid (Calls Tryd.prog 13 #[v] w fun e w' => e = .returned (.int .i64 (chkI l)) ∧ Below w.heap.size w w') := qcheckR_any v l w hv hf hR
  obtain ⟨p, c, rfl, hn, hcell⟩ := hv.open
  by_cases h1 : chkI l = 0
  · have hn1 : (chkI l != 0) = false := by simp [h1]
    have hs := small_of h1
    have HKd : Hid (∀ r ∈ l, r.2.1 = 1 ∨ r.2.1 = 2 ∨ r.2.1 = 3 ∨ r.2.1 = 4) := fun r hr => fits_kind (part_ok.1 ((chk_ok.1 h1).2 r hr)).2.1
    have HC : Hid (∀ k (hk : k < l.length), ∃ g o q d, p = some ⟨g, o, none⟩ ∧ l.length ≤ c ∧ ∀ w1, Below w.heap.size w w1 → w1.cell? ⟨g, o + k * 3, none⟩ = some (.string (Ba l[k].1)) ∧ w1.cell? ⟨g, o + k * 3 + 1, none⟩ = some (.int .i64 l[k].2.1) ∧ w1.cell? ⟨g, o + k * 3 + 2, none⟩ = some (.slice q l[k].2.2.length d) ∧ Strs w1 (.slice q l[k].2.2.length d) l[k].2.2) := hcell
    have HSm : Hid (Small l) := hs
    have HLen : Hid (∀ k, k ≤ l.length → (Ba (accT l k)).size ≤ 8 * 701) := fun k hk => by
      have := accT_len hs k hk
      have := hs.1
      have : k * 701 ≤ 8 * 701 := Nat.mul_le_mul_right _ (by omega)
      rw [ba_size]
      omega
    have HEnd : Hid (accT l l.length = tellAll l) := rfl
    have HLarge : Hid (300 < (tellAll l).length → printE l = ([], 2)) := printE_large h1
    have HOk : Hid (¬ 300 < (tellAll l).length → printE l = (tellAll l, 0)) := printE_ok h1
    clear hcell hv hf hR hs h1
    generalize chkI l = ce at *
    generalize printE l = res at *
    unfold maxLen at hn
    go_enter Tryd.func11, Tryd.ntmps11
    go_wp2_with fail
    refine Calls.mono HCk.out ?_
    rintro e w1 ⟨rfl, b⟩
    have HB1 : Hid (Below w.heap.size w w1) := b
    clear b
    go_wp2_with fail
    go_loopw [5, 17] (fun y i wr => ∃ k : Nat, k ≤ l.length ∧ i = .int .i64 k ∧ y = .string (Ba (accT l k)) ∧ Below w.heap.size w wr) (fun _ i _ => l.length - (intOf i).toNat)
    case atStart => exact ⟨0, Nat.zero_le _, rfl, rfl, HB1.out⟩
    case round =>
      obtain ⟨k, hk, rfl, rfl, hbel⟩ := hrel
      have HB : Hid (Below w.heap.size w wr) := hbel
      clear hbel
      by_cases hlt : k < l.length
      · obtain ⟨g, o, q, d, rfl, hlc, hc0⟩ := HC.out k hlt
        obtain ⟨c1, c2, c3, c4⟩ := hc0 wr HB.out
        have hT := accT_next hlt
        have hal := HLen.out k hk
        have hkd := HKd.out _ (List.getElem_mem hlt)
        have hsm := HSm.out.2 _ (List.getElem_mem hlt)
        have HSt : Hid (Strs wr (.slice q l[k].2.2.length d) l[k].2.2) := c4
        clear hc0 c4
        generalize han : accT l (k + 1) = an at *
        have HAn : Hid (accT l (k + 1) = an) := han
        clear han
        generalize accT l k = ak at *
        generalize l[k] = x at c1 c2 c3 hT hkd hsm HSt
        obtain ⟨xk, xd, xv⟩ := x
        dsimp only at c1 c2 c3 hT hkd hsm HSt
        obtain ⟨hsk, hsv, hsl⟩ := hsm
        have hka : (Ba xk).size ≤ 64 := by rw [ba_size]; exact hsk
        rcases hkd with rfl | rfl | rfl | rfl
        · by_cases h1 : xv.length = 1
          · have h1p : 0 < xv.length := by omega
            by_cases h0 : 0 < k
            · skip
              have h0I : (0 : Int) < (k : Int) := by omega
              rw [if_pos h0] at hT
              have HX : Hid (Ba an = (Ba ak ++ Ba [44]) ++ (Ba xk ++ Ba [61] ++ Ba xv[0])) := by
                show _ = _
                simp only [ba_append]
                rw [hT]
                congr 1
                simp [tellP, tellV_one h1 h1p]
              have hbw : Below wr.heap.size wr (wr.alloc (.cells #[.string (Ba xk), .int .i64 1, .slice q xv.length d] 37)) := (Below.refl _ _).alloc (Nat.le_refl _) _
              have HBw : Hid (Below w.heap.size w (wr.alloc (.cells #[.string (Ba xk), .int .i64 1, .slice q xv.length d] 37))) := HB.out.trans (hbw.mono HB.out.size)
              obtain ⟨g2, o2, q2, hq, hcv⟩ : ∃ g2 o2 q2, q = some ⟨g2, o2, none⟩ ∧ xv.length ≤ d ∧ q2 = Ba xv[0] ∧ ∀ w1, Below wr.heap.size wr w1 → w1.cell? ⟨g2, o2, none⟩ = some (.string q2) := by
                obtain ⟨p5, c5, e5, n5, h5⟩ := HSt.out.open
                simp only [Value.slice.injEq] at e5
                obtain ⟨rfl, _, rfl⟩ := e5
                obtain ⟨g2, o2, e1, e2, e3⟩ := h5 0 h1p
                exact ⟨g2, o2, _, e1, e2, rfl, fun w1 hb => by have := e3 w1 hb; rwa [Nat.add_zero] at this⟩
              obtain ⟨hcv0, hq2, hcv⟩ := hcv
              subst hq
              have hcw := hcv _ hbw
              have hqs : q2.size ≤ 64 := by rw [hq2, ba_size]; exact hsl _ (List.getElem_mem _)
              rw [← hq2] at HX
              rw [h1] at c3 hcv0 hcw HBw
              clear hcv hq2 HSt hT hsk hsl hsv hbw
              generalize Ba xk = sk at *
              generalize Ba ak = sa at *
              go_wp2_with fail
              go_region
              all_goals
                go_wp2_with fail
                go_roundw
                case rel => exact ⟨k + 1, by omega, by go_num, by rw [HAn.out, HX.out], HBw.out.drew⟩
                case measure => simp [intOf]; omega

            · skip
              have h0I : decide ((0 : Int) < (k : Int)) = false := by simp; omega
              rw [if_neg h0, List.append_nil] at hT
              have HX : Hid (Ba an = Ba ak ++ (Ba xk ++ Ba [61] ++ Ba xv[0])) := by
                show _ = _
                simp only [ba_append]
                rw [hT]
                congr 1
                simp [tellP, tellV_one h1 h1p]
              have hbw : Below wr.heap.size wr (wr.alloc (.cells #[.string (Ba xk), .int .i64 1, .slice q xv.length d] 37)) := (Below.refl _ _).alloc (Nat.le_refl _) _
              have HBw : Hid (Below w.heap.size w (wr.alloc (.cells #[.string (Ba xk), .int .i64 1, .slice q xv.length d] 37))) := HB.out.trans (hbw.mono HB.out.size)
              obtain ⟨g2, o2, q2, hq, hcv⟩ : ∃ g2 o2 q2, q = some ⟨g2, o2, none⟩ ∧ xv.length ≤ d ∧ q2 = Ba xv[0] ∧ ∀ w1, Below wr.heap.size wr w1 → w1.cell? ⟨g2, o2, none⟩ = some (.string q2) := by
                obtain ⟨p5, c5, e5, n5, h5⟩ := HSt.out.open
                simp only [Value.slice.injEq] at e5
                obtain ⟨rfl, _, rfl⟩ := e5
                obtain ⟨g2, o2, e1, e2, e3⟩ := h5 0 h1p
                exact ⟨g2, o2, _, e1, e2, rfl, fun w1 hb => by have := e3 w1 hb; rwa [Nat.add_zero] at this⟩
              obtain ⟨hcv0, hq2, hcv⟩ := hcv
              subst hq
              have hcw := hcv _ hbw
              have hqs : q2.size ≤ 64 := by rw [hq2, ba_size]; exact hsl _ (List.getElem_mem _)
              rw [← hq2] at HX
              rw [h1] at c3 hcv0 hcw HBw
              clear hcv hq2 HSt hT hsk hsl hsv hbw
              generalize Ba xk = sk at *
              generalize Ba ak = sa at *
              go_wp2_with fail
              go_region
              all_goals
                go_wp2_with fail
                go_roundw
                case rel => exact ⟨k + 1, by omega, by go_num, by rw [HAn.out, HX.out], HBw.out.drew⟩
                case measure => simp [intOf]; omega

          · by_cases h0 : 0 < k
            · skip
              have h0I : (0 : Int) < (k : Int) := by omega
              rw [if_pos h0] at hT
              have HX : Hid (Ba an = (Ba ak ++ Ba [44]) ++ (Ba xk ++ Ba [32, 105, 110, 32, 40] ++ Ba (Lib.join xv [44]) ++ Ba [41])) := by
                show _ = _
                simp only [ba_append]
                rw [hT]
                congr 1
                simp [tellP, tellV_more h1]
              have hbw : Below wr.heap.size wr (wr.alloc (.cells #[.string (Ba xk), .int .i64 1, .slice q xv.length d] 37)) := (Below.refl _ _).alloc (Nat.le_refl _) _
              have HBw : Hid (Below w.heap.size w (wr.alloc (.cells #[.string (Ba xk), .int .i64 1, .slice q xv.length d] 37))) := HB.out.trans (hbw.mono HB.out.size)
              have hjl := join_len xv hsl
              have hjs : (Ba (Lib.join xv [44])).size ≤ 520 := by rw [ba_size]; omega
              have HJ : Hid (∀ w1, Below (wr.alloc (.cells #[.string (Ba xk), .int .i64 1, .slice q xv.length d] 37)).heap.size (wr.alloc (.cells #[.string (Ba xk), .int .i64 1, .slice q xv.length d] 37)) w1 → Calls Tryd.prog 26 #[.slice q xv.length d, .string ⟨#[44]⟩] w1 fun e w' => e = .returned (.string (Ba (Lib.join xv [44]))) ∧ (w'.cell? ⟨wr.heap.size, 0, none⟩ = some (.string (Ba xk)) ∧ w'.cell? ⟨wr.heap.size, 2, none⟩ = some (.slice q xv.length d)) ∧ Hid (Below w.heap.size w w')) := fun w1 hb => (join_any _ xv w1 (HSt.out.below (hbw.trans (hb.mono hbw.size))) hsv hsl).mono fun e w' h => ⟨h.1, ⟨(box3 (hb.trans (h.2.mono hb.size))).1, (box3 (hb.trans (h.2.mono hb.size))).2.2⟩, HBw.out.trans ((hb.trans (h.2.mono hb.size)).mono HBw.out.size)⟩
              have h1b : ((xv.length : Int) == 1) = false := by simp; omega
              clear HSt hT hsk hsl hsv hbw hjl h1
              generalize Ba (Lib.join xv [44]) = jv at *
              generalize xv.length = nv at *
              generalize Ba xk = sk at *
              generalize Ba ak = sa at *
              go_wp2_with fail
              go_region_with (go_at_call 26; refine Calls.mono (HJ.out _ ?_) ?_; (first | exact (Below.refl _ _).drew | exact Below.refl _ _); rintro e w3 ⟨rfl, ⟨k0, k2⟩, HB3⟩)
              all_goals
                go_wp2_with fail
                go_roundw
                case rel => exact ⟨k + 1, by omega, by go_num, by rw [HAn.out, HX.out], HB3.out⟩
                case measure => simp [intOf]; omega

            · skip
              have h0I : decide ((0 : Int) < (k : Int)) = false := by simp; omega
              rw [if_neg h0, List.append_nil] at hT
              have HX : Hid (Ba an = Ba ak ++ (Ba xk ++ Ba [32, 105, 110, 32, 40] ++ Ba (Lib.join xv [44]) ++ Ba [41])) := by
                show _ = _
                simp only [ba_append]
                rw [hT]
                congr 1
                simp [tellP, tellV_more h1]
              have hbw : Below wr.heap.size wr (wr.alloc (.cells #[.string (Ba xk), .int .i64 1, .slice q xv.length d] 37)) := (Below.refl _ _).alloc (Nat.le_refl _) _
              have HBw : Hid (Below w.heap.size w (wr.alloc (.cells #[.string (Ba xk), .int .i64 1, .slice q xv.length d] 37))) := HB.out.trans (hbw.mono HB.out.size)
              have hjl := join_len xv hsl
              have hjs : (Ba (Lib.join xv [44])).size ≤ 520 := by rw [ba_size]; omega
              have HJ : Hid (∀ w1, Below (wr.alloc (.cells #[.string (Ba xk), .int .i64 1, .slice q xv.length d] 37)).heap.size (wr.alloc (.cells #[.string (Ba xk), .int .i64 1, .slice q xv.length d] 37)) w1 → Calls Tryd.prog 26 #[.slice q xv.length d, .string ⟨#[44]⟩] w1 fun e w' => e = .returned (.string (Ba (Lib.join xv [44]))) ∧ (w'.cell? ⟨wr.heap.size, 0, none⟩ = some (.string (Ba xk)) ∧ w'.cell? ⟨wr.heap.size, 2, none⟩ = some (.slice q xv.length d)) ∧ Hid (Below w.heap.size w w')) := fun w1 hb => (join_any _ xv w1 (HSt.out.below (hbw.trans (hb.mono hbw.size))) hsv hsl).mono fun e w' h => ⟨h.1, ⟨(box3 (hb.trans (h.2.mono hb.size))).1, (box3 (hb.trans (h.2.mono hb.size))).2.2⟩, HBw.out.trans ((hb.trans (h.2.mono hb.size)).mono HBw.out.size)⟩
              have h1b : ((xv.length : Int) == 1) = false := by simp; omega
              clear HSt hT hsk hsl hsv hbw hjl h1
              generalize Ba (Lib.join xv [44]) = jv at *
              generalize xv.length = nv at *
              generalize Ba xk = sk at *
              generalize Ba ak = sa at *
              go_wp2_with fail
              go_region_with (go_at_call 26; refine Calls.mono (HJ.out _ ?_) ?_; (first | exact (Below.refl _ _).drew | exact Below.refl _ _); rintro e w3 ⟨rfl, ⟨k0, k2⟩, HB3⟩)
              all_goals
                go_wp2_with fail
                go_roundw
                case rel => exact ⟨k + 1, by omega, by go_num, by rw [HAn.out, HX.out], HB3.out⟩
                case measure => simp [intOf]; omega

        · by_cases h1 : xv.length = 1
          · have h1p : 0 < xv.length := by omega
            by_cases h0 : 0 < k
            · skip
              have h0I : (0 : Int) < (k : Int) := by omega
              rw [if_pos h0] at hT
              have HX : Hid (Ba an = (Ba ak ++ Ba [44]) ++ (Ba xk ++ Ba [33, 61] ++ Ba xv[0])) := by
                show _ = _
                simp only [ba_append]
                rw [hT]
                congr 1
                simp [tellP, tellV_one h1 h1p]
              have hbw : Below wr.heap.size wr (wr.alloc (.cells #[.string (Ba xk), .int .i64 2, .slice q xv.length d] 37)) := (Below.refl _ _).alloc (Nat.le_refl _) _
              have HBw : Hid (Below w.heap.size w (wr.alloc (.cells #[.string (Ba xk), .int .i64 2, .slice q xv.length d] 37))) := HB.out.trans (hbw.mono HB.out.size)
              obtain ⟨g2, o2, q2, hq, hcv⟩ : ∃ g2 o2 q2, q = some ⟨g2, o2, none⟩ ∧ xv.length ≤ d ∧ q2 = Ba xv[0] ∧ ∀ w1, Below wr.heap.size wr w1 → w1.cell? ⟨g2, o2, none⟩ = some (.string q2) := by
                obtain ⟨p5, c5, e5, n5, h5⟩ := HSt.out.open
                simp only [Value.slice.injEq] at e5
                obtain ⟨rfl, _, rfl⟩ := e5
                obtain ⟨g2, o2, e1, e2, e3⟩ := h5 0 h1p
                exact ⟨g2, o2, _, e1, e2, rfl, fun w1 hb => by have := e3 w1 hb; rwa [Nat.add_zero] at this⟩
              obtain ⟨hcv0, hq2, hcv⟩ := hcv
              subst hq
              have hcw := hcv _ hbw
              have hqs : q2.size ≤ 64 := by rw [hq2, ba_size]; exact hsl _ (List.getElem_mem _)
              rw [← hq2] at HX
              rw [h1] at c3 hcv0 hcw HBw
              clear hcv hq2 HSt hT hsk hsl hsv hbw
              generalize Ba xk = sk at *
              generalize Ba ak = sa at *
              go_wp2_with fail
              go_region
              all_goals
                go_wp2_with fail
                go_roundw
                case rel => exact ⟨k + 1, by omega, by go_num, by rw [HAn.out, HX.out], HBw.out.drew⟩
                case measure => simp [intOf]; omega

            · skip
              have h0I : decide ((0 : Int) < (k : Int)) = false := by simp; omega
              rw [if_neg h0, List.append_nil] at hT
              have HX : Hid (Ba an = Ba ak ++ (Ba xk ++ Ba [33, 61] ++ Ba xv[0])) := by
                show _ = _
                simp only [ba_append]
                rw [hT]
                congr 1
                simp [tellP, tellV_one h1 h1p]
              have hbw : Below wr.heap.size wr (wr.alloc (.cells #[.string (Ba xk), .int .i64 2, .slice q xv.length d] 37)) := (Below.refl _ _).alloc (Nat.le_refl _) _
              have HBw : Hid (Below w.heap.size w (wr.alloc (.cells #[.string (Ba xk), .int .i64 2, .slice q xv.length d] 37))) := HB.out.trans (hbw.mono HB.out.size)
              obtain ⟨g2, o2, q2, hq, hcv⟩ : ∃ g2 o2 q2, q = some ⟨g2, o2, none⟩ ∧ xv.length ≤ d ∧ q2 = Ba xv[0] ∧ ∀ w1, Below wr.heap.size wr w1 → w1.cell? ⟨g2, o2, none⟩ = some (.string q2) := by
                obtain ⟨p5, c5, e5, n5, h5⟩ := HSt.out.open
                simp only [Value.slice.injEq] at e5
                obtain ⟨rfl, _, rfl⟩ := e5
                obtain ⟨g2, o2, e1, e2, e3⟩ := h5 0 h1p
                exact ⟨g2, o2, _, e1, e2, rfl, fun w1 hb => by have := e3 w1 hb; rwa [Nat.add_zero] at this⟩
              obtain ⟨hcv0, hq2, hcv⟩ := hcv
              subst hq
              have hcw := hcv _ hbw
              have hqs : q2.size ≤ 64 := by rw [hq2, ba_size]; exact hsl _ (List.getElem_mem _)
              rw [← hq2] at HX
              rw [h1] at c3 hcv0 hcw HBw
              clear hcv hq2 HSt hT hsk hsl hsv hbw
              generalize Ba xk = sk at *
              generalize Ba ak = sa at *
              go_wp2_with fail
              go_region
              all_goals
                go_wp2_with fail
                go_roundw
                case rel => exact ⟨k + 1, by omega, by go_num, by rw [HAn.out, HX.out], HBw.out.drew⟩
                case measure => simp [intOf]; omega

          · by_cases h0 : 0 < k
            · skip
              have h0I : (0 : Int) < (k : Int) := by omega
              rw [if_pos h0] at hT
              have HX : Hid (Ba an = (Ba ak ++ Ba [44]) ++ (Ba xk ++ Ba [32, 110, 111, 116, 105, 110, 32, 40] ++ Ba (Lib.join xv [44]) ++ Ba [41])) := by
                show _ = _
                simp only [ba_append]
                rw [hT]
                congr 1
                simp [tellP, tellV_more h1]
              have hbw : Below wr.heap.size wr (wr.alloc (.cells #[.string (Ba xk), .int .i64 2, .slice q xv.length d] 37)) := (Below.refl _ _).alloc (Nat.le_refl _) _
              have HBw : Hid (Below w.heap.size w (wr.alloc (.cells #[.string (Ba xk), .int .i64 2, .slice q xv.length d] 37))) := HB.out.trans (hbw.mono HB.out.size)
              have hjl := join_len xv hsl
              have hjs : (Ba (Lib.join xv [44])).size ≤ 520 := by rw [ba_size]; omega
              have HJ : Hid (∀ w1, Below (wr.alloc (.cells #[.string (Ba xk), .int .i64 2, .slice q xv.length d] 37)).heap.size (wr.alloc (.cells #[.string (Ba xk), .int .i64 2, .slice q xv.length d] 37)) w1 → Calls Tryd.prog 26 #[.slice q xv.length d, .string ⟨#[44]⟩] w1 fun e w' => e = .returned (.string (Ba (Lib.join xv [44]))) ∧ (w'.cell? ⟨wr.heap.size, 0, none⟩ = some (.string (Ba xk)) ∧ w'.cell? ⟨wr.heap.size, 2, none⟩ = some (.slice q xv.length d)) ∧ Hid (Below w.heap.size w w')) := fun w1 hb => (join_any _ xv w1 (HSt.out.below (hbw.trans (hb.mono hbw.size))) hsv hsl).mono fun e w' h => ⟨h.1, ⟨(box3 (hb.trans (h.2.mono hb.size))).1, (box3 (hb.trans (h.2.mono hb.size))).2.2⟩, HBw.out.trans ((hb.trans (h.2.mono hb.size)).mono HBw.out.size)⟩
              have h1b : ((xv.length : Int) == 1) = false := by simp; omega
              clear HSt hT hsk hsl hsv hbw hjl h1
              generalize Ba (Lib.join xv [44]) = jv at *
              generalize xv.length = nv at *
              generalize Ba xk = sk at *
              generalize Ba ak = sa at *
              go_wp2_with fail
              go_region_with (go_at_call 26; refine Calls.mono (HJ.out _ ?_) ?_; (first | exact (Below.refl _ _).drew | exact Below.refl _ _); rintro e w3 ⟨rfl, ⟨k0, k2⟩, HB3⟩)
              all_goals
                go_wp2_with fail
                go_roundw
                case rel => exact ⟨k + 1, by omega, by go_num, by rw [HAn.out, HX.out], HB3.out⟩
                case measure => simp [intOf]; omega

            · skip
              have h0I : decide ((0 : Int) < (k : Int)) = false := by simp; omega
              rw [if_neg h0, List.append_nil] at hT
              have HX : Hid (Ba an = Ba ak ++ (Ba xk ++ Ba [32, 110, 111, 116, 105, 110, 32, 40] ++ Ba (Lib.join xv [44]) ++ Ba [41])) := by
                show _ = _
                simp only [ba_append]
                rw [hT]
                congr 1
                simp [tellP, tellV_more h1]
              have hbw : Below wr.heap.size wr (wr.alloc (.cells #[.string (Ba xk), .int .i64 2, .slice q xv.length d] 37)) := (Below.refl _ _).alloc (Nat.le_refl _) _
              have HBw : Hid (Below w.heap.size w (wr.alloc (.cells #[.string (Ba xk), .int .i64 2, .slice q xv.length d] 37))) := HB.out.trans (hbw.mono HB.out.size)
              have hjl := join_len xv hsl
              have hjs : (Ba (Lib.join xv [44])).size ≤ 520 := by rw [ba_size]; omega
              have HJ : Hid (∀ w1, Below (wr.alloc (.cells #[.string (Ba xk), .int .i64 2, .slice q xv.length d] 37)).heap.size (wr.alloc (.cells #[.string (Ba xk), .int .i64 2, .slice q xv.length d] 37)) w1 → Calls Tryd.prog 26 #[.slice q xv.length d, .string ⟨#[44]⟩] w1 fun e w' => e = .returned (.string (Ba (Lib.join xv [44]))) ∧ (w'.cell? ⟨wr.heap.size, 0, none⟩ = some (.string (Ba xk)) ∧ w'.cell? ⟨wr.heap.size, 2, none⟩ = some (.slice q xv.length d)) ∧ Hid (Below w.heap.size w w')) := fun w1 hb => (join_any _ xv w1 (HSt.out.below (hbw.trans (hb.mono hbw.size))) hsv hsl).mono fun e w' h => ⟨h.1, ⟨(box3 (hb.trans (h.2.mono hb.size))).1, (box3 (hb.trans (h.2.mono hb.size))).2.2⟩, HBw.out.trans ((hb.trans (h.2.mono hb.size)).mono HBw.out.size)⟩
              have h1b : ((xv.length : Int) == 1) = false := by simp; omega
              clear HSt hT hsk hsl hsv hbw hjl h1
              generalize Ba (Lib.join xv [44]) = jv at *
              generalize xv.length = nv at *
              generalize Ba xk = sk at *
              generalize Ba ak = sa at *
              go_wp2_with fail
              go_region_with (go_at_call 26; refine Calls.mono (HJ.out _ ?_) ?_; (first | exact (Below.refl _ _).drew | exact Below.refl _ _); rintro e w3 ⟨rfl, ⟨k0, k2⟩, HB3⟩)
              all_goals
                go_wp2_with fail
                go_roundw
                case rel => exact ⟨k + 1, by omega, by go_num, by rw [HAn.out, HX.out], HB3.out⟩
                case measure => simp [intOf]; omega

        · by_cases h0 : 0 < k
          · skip
            have h0I : (0 : Int) < (k : Int) := by omega
            rw [if_pos h0] at hT
            have HX : Hid (Ba an = (Ba ak ++ Ba [44]) ++ Ba xk) := by
              show _ = _
              simp only [ba_append]
              rw [hT]
              congr 1
              all_goals simp [tellP]
            have hbw : Below wr.heap.size wr (wr.alloc (.cells #[.string (Ba xk), .int .i64 3, .slice q xv.length d] 37)) := (Below.refl _ _).alloc (Nat.le_refl _) _
            have HBw : Hid (Below w.heap.size w (wr.alloc (.cells #[.string (Ba xk), .int .i64 3, .slice q xv.length d] 37))) := HB.out.trans (hbw.mono HB.out.size)
            clear HSt hT hsk hsl hsv hbw
            generalize xv.length = nv at *
            generalize Ba xk = sk at *
            generalize Ba ak = sa at *
            go_wp2_with fail
            go_roundw
            case rel => exact ⟨k + 1, by omega, by go_num, by rw [HAn.out, HX.out], HBw.out⟩
            case measure => simp [intOf]; omega

          · skip
            have h0I : decide ((0 : Int) < (k : Int)) = false := by simp; omega
            rw [if_neg h0, List.append_nil] at hT
            have HX : Hid (Ba an = Ba ak ++ Ba xk) := by
              show _ = _
              simp only [ba_append]
              rw [hT]
              congr 1
              all_goals simp [tellP]
            have hbw : Below wr.heap.size wr (wr.alloc (.cells #[.string (Ba xk), .int .i64 3, .slice q xv.length d] 37)) := (Below.refl _ _).alloc (Nat.le_refl _) _
            have HBw : Hid (Below w.heap.size w (wr.alloc (.cells #[.string (Ba xk), .int .i64 3, .slice q xv.length d] 37))) := HB.out.trans (hbw.mono HB.out.size)
            clear HSt hT hsk hsl hsv hbw
            generalize xv.length = nv at *
            generalize Ba xk = sk at *
            generalize Ba ak = sa at *
            go_wp2_with fail
            go_roundw
            case rel => exact ⟨k + 1, by omega, by go_num, by rw [HAn.out, HX.out], HBw.out⟩
            case measure => simp [intOf]; omega

        · by_cases h0 : 0 < k
          · skip
            have h0I : (0 : Int) < (k : Int) := by omega
            rw [if_pos h0] at hT
            have HX : Hid (Ba an = (Ba ak ++ Ba [44]) ++ (Ba [33] ++ Ba xk)) := by
              show _ = _
              simp only [ba_append]
              rw [hT]
              congr 1
              all_goals simp [tellP]
            have hbw : Below wr.heap.size wr (wr.alloc (.cells #[.string (Ba xk), .int .i64 4, .slice q xv.length d] 37)) := (Below.refl _ _).alloc (Nat.le_refl _) _
            have HBw : Hid (Below w.heap.size w (wr.alloc (.cells #[.string (Ba xk), .int .i64 4, .slice q xv.length d] 37))) := HB.out.trans (hbw.mono HB.out.size)
            clear HSt hT hsk hsl hsv hbw
            generalize xv.length = nv at *
            generalize Ba xk = sk at *
            generalize Ba ak = sa at *
            go_wp2_with fail
            go_roundw
            case rel => exact ⟨k + 1, by omega, by go_num, by rw [HAn.out, HX.out], HBw.out⟩
            case measure => simp [intOf]; omega

          · skip
            have h0I : decide ((0 : Int) < (k : Int)) = false := by simp; omega
            rw [if_neg h0, List.append_nil] at hT
            have HX : Hid (Ba an = Ba ak ++ (Ba [33] ++ Ba xk)) := by
              show _ = _
              simp only [ba_append]
              rw [hT]
              congr 1
              all_goals simp [tellP]
            have hbw : Below wr.heap.size wr (wr.alloc (.cells #[.string (Ba xk), .int .i64 4, .slice q xv.length d] 37)) := (Below.refl _ _).alloc (Nat.le_refl _) _
            have HBw : Hid (Below w.heap.size w (wr.alloc (.cells #[.string (Ba xk), .int .i64 4, .slice q xv.length d] 37))) := HB.out.trans (hbw.mono HB.out.size)
            clear HSt hT hsk hsl hsv hbw
            generalize xv.length = nv at *
            generalize Ba xk = sk at *
            generalize Ba ak = sa at *
            go_wp2_with fail
            go_roundw
            case rel => exact ⟨k + 1, by omega, by go_num, by rw [HAn.out, HX.out], HBw.out⟩
            case measure => simp [intOf]; omega

      · have hke : k = l.length := by omega
        have hT : accT l k = tellAll l := by rw [hke]; exact HEnd.out
        rw [hT]
        have hsz := ba_size (tellAll l)
        clear hke hT
        by_cases h2 : 300 < (tellAll l).length
        · have h2I : (300 : Int) < ((Ba (tellAll l)).size : Int) := by omega
          have HX : Hid (_) := HLarge.out h2
          clear h2 hsz
          generalize Ba (tellAll l) = y at *
          go_wp2_with fail
          go_ret2
          exact ⟨by rw [HX.out]; rfl, HB.out⟩
        · have h2I : ¬ (300 : Int) < ((Ba (tellAll l)).size : Int) := by omega
          have HX : Hid (_) := HOk.out h2
          clear h2 hsz
          generalize hy : Ba (tellAll l) = y at *
          have HY : Hid (Ba (tellAll l) = y) := hy
          clear hy
          go_wp2_with fail
          go_ret2
          exact ⟨by rw [HX.out, ← HY.out]; rfl, HB.out⟩
  · have hn1 : (chkI l != 0) = true := by simpa using h1
    rw [printE_bad h1]
    clear h1 hcell hv hf hR
    generalize chkI l = ce at *
    generalize l.length = nl at *
    go_enter Tryd.func11, Tryd.ntmps11
    go_wp2_with fail
    refine Calls.mono HCk.out ?_
    rintro e w1 ⟨rfl, b⟩
    have HB : Hid (Below w.heap.size w w1) := b
    clear b
    go_wp2_with fail
    go_ret2
    exact ⟨rfl, HB.out⟩
end Go.Proofs.YtglmffplnglkdaaDoor
