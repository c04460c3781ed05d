/- Contract over this translation: grants.parted. -/
import Derived.Test.YtnjjlnhchfoigabDoorGrPlaces
namespace Go.Proofs.YtnjjlnhchfoigabDoor
open Go.RowKit Go.Maps
open Go.ChangeShapes (lits)
set_option linter.unusedVariables false
set_option linter.unusedSimpArgs false
theorem bx3a {w w1 : World} {a b c : Value} {t : TypeId} (h : Below (w.alloc (.cells #[a, b, c] t)).heap.size (w.alloc (.cells #[a, b, c] t)) w1) :
    w1.cell? ⟨w.heap.size, 0, none⟩ = some a ∧ w1.cell? ⟨w.heap.size, 1, none⟩ = some b ∧ w1.cell? ⟨w.heap.size, 2, none⟩ = some c := by
  rw [h.cell (p := ⟨w.heap.size, 0, none⟩) (by simp), h.cell (p := ⟨w.heap.size, 1, none⟩) (by simp), h.cell (p := ⟨w.heap.size, 2, none⟩) (by simp)]
  rw [World.cell?_alloc_at _ _ _ _ rfl, World.cell?_alloc_at _ _ _ _ rfl, World.cell?_alloc_at _ _ _ _ rfl]
  exact ⟨rfl, rfl, rfl⟩
set_option maxRecDepth 100000 in
set_option maxHeartbeats 8000000 in
theorem parted_from (v : Value) (held : List Rl) (side : Nat) (w0 w : World) (hv : Rls w0 v held) (hb0 : Below w0.heap.size w0 w) (hs : side ≤ 2) (hl : held.length ≤ 1048576) (hsm : ∀ r ∈ held, SmR r) :
    Calls Tryd.prog 56 #[v, .int .i64 side] w fun e w' => ∃ (y : Value) (L : List RV) (n : Nat), e = .returned (.tuple #[y, .map (some w.heap.size)]) ∧ L.map (·.1) = whatP held side ∧ w'.ownsRow (w.heap.size + 1) 40 3 y L.length (flatG L) ∧ StG w0 L ∧
      PlIs w' (w.heap.size + 1) w.heap.size n (placesP held side) ∧ n ≤ held.length * 1048576 ∧ Below w.heap.size w w' := by
  have hmm := @run_makeMap Tryd.prog
  obtain ⟨ir, hir, hr0, hr1, hr2⟩ := info_parts info_rule
  obtain ⟨ii, hii, hi0, hi1, hi2⟩ := info_parts info_int
  obtain ⟨p, c, rfl, hn, hcell⟩ := rls_open hv
  have HC : Hid (∀ k (hk : k < held.length), ∃ g o, p = some ⟨g, o, none⟩ ∧ held.length ≤ c ∧ g < w0.heap.size ∧ ∀ w1, Below w.heap.size w w1 → ∃ p1 n1 c1 p2 n2 c2 p3 n3 c3,
      w1.cell? ⟨g, o + k * 3, none⟩ = some (.slice p1 n1 c1) ∧ w1.cell? ⟨g, o + k * 3 + 1, none⟩ = some (.slice p2 n2 c2) ∧ w1.cell? ⟨g, o + k * 3 + 2, none⟩ = some (.slice p3 n3 c3) ∧
      (Strs w0 (.slice p1 n1 c1) held[k].1 ∧ Strs w0 (.slice p2 n2 c2) held[k].2.1 ∧ Strs w0 (.slice p3 n3 c3) held[k].2.2) ∧
      ∀ w2, Below w1.heap.size w1 w2 → Calls Tryd.prog 48 #[.agg #[.slice p1 n1 c1, .slice p2 n2 c2, .slice p3 n3 c3], .int .i64 side] w2 (WordsQ w2 (wordsP held[k] side))) := by
    intro k hk
    obtain ⟨g, o, h1, h2, h3, h4⟩ := hcell k hk
    refine ⟨g, o, h1, h2, h3, fun w1 hbb => ?_⟩
    have hb := hb0.trans (hbb.mono hb0.size)
    obtain ⟨p1, n1, c1, p2, n2, c2, p3, n3, c3, k1, k2, k3, _⟩ := h4 w1 hb
    obtain ⟨q1, m1, d1, q2, m2, d2, q3, m3, d3, j1, j2, j3, s1, s2, s3⟩ := h4 w0 (Below.refl _ _)
    have e1 := (hb.cell (p := ⟨g, o + k * 3, none⟩) h3).symm.trans k1
    have e2 := (hb.cell (p := ⟨g, o + k * 3 + 1, none⟩) h3).symm.trans k2
    have e3 := (hb.cell (p := ⟨g, o + k * 3 + 2, none⟩) h3).symm.trans k3
    rw [e1] at j1
    rw [e2] at j2
    rw [e3] at j3
    injection j1 with j1
    injection j2 with j2
    injection j3 with j3
    rw [← j1] at s1
    rw [← j2] at s2
    rw [← j3] at s3
    have hr := hsm _ (List.getElem_mem hk)
    exact ⟨p1, n1, c1, p2, n2, c2, p3, n3, c3, k1, k2, k3, ⟨s1, s2, s3⟩, fun w2 hb2 => wordsOf_any _ _ _ held[k] side w2 ((s1.below hb).below hb2) ((s2.below hb).below hb2) ((s3.below hb).below hb2) hr.1 hr.2.1 hr.2.2.1 hr.2.2.2 hs⟩
  have HSg : Hid (∀ w, Calls Tryd.prog 32 #[.int .i64 side] w fun e w' => e = .returned (.string (Ba (signP side))) ∧ w' = w) := fun w => sign_any side w
  have HSm : Hid (∀ r ∈ held, SmR r) := hsm
  have HM0 : Hid (PlIs (w.alloc (.map #[] 0)) (w.heap.size + 1) w.heap.size 0 (placesK held side 0)) := by
    have h := PlIs.made w
    have e : placesK held side 0 = fun _ => [] := by funext t; simp [placesK]
    rw [e]
    exact h
  have HW0 : Hid (whatP (held.take 0) side = []) := rfl
  have HB0 : Hid (Below w.heap.size w (w.alloc (.map #[] 0))) := (Below.refl _ _).alloc (Nat.le_refl _) _
  have HS0 : Hid (w.heap.size + 1 ≤ (w.alloc (.map #[] 0)).heap.size) := by show _ ≤ _; simp
  clear hcell hv hsm hb0
  unfold maxLen at hn
  generalize hsd : (Value.int .i64 side) = sd at *
  go_enter Tryd.func56, Tryd.ntmps56
  go_wp2_with fail
  go_loopw [4, 14] (fun yv iv wr => ∃ (k n : Nat) (L : List RV), k ≤ held.length ∧ iv = .int .i64 k ∧ L.map (·.1) = whatP (held.take k) side ∧ wr.ownsRow (w.heap.size + 1) 40 3 yv L.length (flatG L) ∧ StG w0 L ∧ L.length ≤ k ∧
      PlIs wr (w.heap.size + 1) w.heap.size n (placesK held side k) ∧ n ≤ k * 1048576 ∧ Below w.heap.size w wr ∧ w.heap.size + 1 ≤ wr.heap.size) (fun _ iv _ => held.length - (intOf iv).toNat)
  case atStart => exact ⟨0, 0, [], Nat.zero_le _, rfl, HW0.out.symm, World.ownsRow_nil _ _ _ _, (fun p hp => by simp at hp), Nat.le_refl _, HM0.out, Nat.zero_le _, HB0.out, HS0.out⟩
  case round =>
    obtain ⟨k, n, L, hk, rfl, hmap, hown, hst, hlen, hpl, hnk, hbel, hsz⟩ := hrel
    have HMp : Hid (L.map (·.1) = whatP (held.take k) side) := hmap
    have HO : Hid (wr.ownsRow (w.heap.size + 1) 40 3 u4 L.length (flatG L)) := hown
    have HSt : Hid (StG w0 L) := hst
    have HP : Hid (PlIs wr (w.heap.size + 1) w.heap.size n (placesK held side k)) := hpl
    have HB : Hid (Below w.heap.size w wr) := hbel
    clear hmap hown hst hpl hbel
    by_cases hlt : k < held.length
    · obtain ⟨g, o, rfl, hlc, _, hc0⟩ := HC.out k hlt
      obtain ⟨p1, n1, c1, p2, n2, c2, p3, n3, c3, k1, k2, k3, hS3, hcall⟩ := hc0 wr HB.out
      have HS3 : Hid (Strs w0 (.slice p1 n1 c1) held[k].1 ∧ Strs w0 (.slice p2 n2 c2) held[k].2.1 ∧ Strs w0 (.slice p3 n3 c3) held[k].2.2) := hS3
      have HIn : Hid (signP side ∈ wordsP held[k] side → whatP (held.take (k + 1)) side = whatP (held.take k) side ++ [held[k]] ∧ placesK held side (k + 1) = placesK held side k) := fun h => ⟨what_in hlt h, places_whole hlt h⟩
      have HOu : Hid (signP side ∉ wordsP held[k] side → whatP (held.take (k + 1)) side = whatP (held.take k) side ∧ placesJ held side k (wordsP held[k] side) (wordsP held[k] side).length = placesK held side (k + 1)) := fun h => ⟨what_out hlt h, placesJ_all hlt h⟩
      have hsr := HSm.out _ (List.getElem_mem hlt)
      have HNd : Hid ((wordsP held[k] side).Nodup) := words_nodup _ _
      have HTl : Hid ((wordsP held[k] side).length ≤ 1048576) := words_small hsr side
      have HTf : Hid (FitS (wordsP held[k] side)) := words_fit hsr side
      obtain ⟨wn, hwn⟩ : ∃ wn, wn = wr.alloc (.cells #[.slice p1 n1 c1, .slice p2 n2 c2, .slice p3 n3 c3] 40) := ⟨_, rfl⟩
      have hBn : Below wr.heap.size wr wn := by rw [hwn]; exact (Below.refl _ _).alloc (Nat.le_refl _) _
      have HWO : Hid (Calls Tryd.prog 48 #[.agg #[.slice p1 n1 c1, .slice p2 n2 c2, .slice p3 n3 c3], sd] wn (WordsQ wn (wordsP held[k] side))) := hcall wn hBn
      have HBn : Hid (Below wr.heap.size wr wn) := hBn
      have HWn : Hid (wn = wr.alloc (.cells #[.slice p1 n1 c1, .slice p2 n2 c2, .slice p3 n3 c3] 40)) := hwn
      have HBb : Hid (∀ w1, Below wn.heap.size wn w1 → w1.cell? ⟨wr.heap.size, 0, none⟩ = some (.slice p1 n1 c1) ∧ w1.cell? ⟨wr.heap.size, 1, none⟩ = some (.slice p2 n2 c2) ∧ w1.cell? ⟨wr.heap.size, 2, none⟩ = some (.slice p3 n3 c3)) := fun w1 h => by
        rw [hwn] at h
        exact bx3a h
      have hkI : (k : Int) < (held.length : Int) := by omega
      clear hS3 hcall hsr hBn hwn hc0
      generalize held[k] = rk at *
      generalize wordsP rk side = T at *
      by_cases hin : signP side ∈ T
      · obtain ⟨hi1, hi2⟩ := HIn.out hin
        have HCt : Hid (∀ u w2, Strs w2 u T → Calls Tryd.prog 54 #[u, .string (Ba (signP side))] w2 fun e w' => e = .returned (.bool true) ∧ w' = w2) := fun u w2 h => by
          have := contains_of u T (signP side) w2 h
          rw [decide_eq_true hin] at this
          exact this
        have HN1 : Hid (whatP (held.take (k + 1)) side = whatP (held.take k) side ++ [rk]) := hi1
        have HN2 : Hid (placesK held side (k + 1) = placesK held side k) := hi2
        clear hi1 hi2 HIn HOu hin
        generalize Ba (signP side) = sg at *
        go_wp2_with fail
        rw [← HWn.out]
        refine Calls.mono HWO.out ?_
        rintro e w2 ⟨u, rfl, hu1, hu2, hb2⟩
        obtain ⟨f0, f1, f2⟩ := HBb.out w2 hb2
        have HSu : Hid (Strs w2 u T) := hu1.strs
        have HBr : Hid (Below wr.heap.size wr w2) := HBn.out.trans (hb2.mono HBn.out.size)
        clear hu1 hu2 hb2
        go_wp2_with fail
        refine Calls.mono (HSg.out _) ?_
        rintro e w3 ⟨rfl, hw3⟩
        obtain rfl : w2 = w3 := hw3.symm
        go_wp2_with fail
        refine Calls.mono (HCt.out u w2 HSu.out) ?_
        rintro e w3 ⟨rfl, hw3⟩
        obtain rfl : w2 = w3 := hw3.symm
        obtain ⟨w4, hw4⟩ : ∃ w4, w4 = w2.alloc (.cells #[.slice p1 n1 c1, .slice p2 n2 c2, .slice p3 n3 c3] 40) := ⟨_, rfl⟩
        have hB4 : Below wr.heap.size wr w4 := by rw [hw4]; exact HBr.out.alloc HBr.out.size _
        have HB4 : Hid (Below w.heap.size w w4) := HB.out.trans (hB4.mono HB.out.size)
        have HO4 : Hid (w4.ownsRow (w.heap.size + 1) 40 3 u4 L.length (flatG L)) := own_belowG HO.out hB4
        have HP4 : Hid (PlIs w4 (w.heap.size + 1) w.heap.size n (placesK held side k)) := HP.out.below hB4
        have HW4 : Hid (w4 = w2.alloc (.cells #[.slice p1 n1 c1, .slice p2 n2 c2, .slice p3 n3 c3] 40)) := hw4
        have HO5 : Hid ((w2.alloc (.cells #[.slice p1 n1 c1, .slice p2 n2 c2, .slice p3 n3 c3] 40)).ownsRow (w.heap.size + 1) 40 3 u4 L.length (flatG L)) := by rw [← hw4]; exact HO4.out
        have HS4 : Hid (w.heap.size + 1 ≤ (w2.alloc (.cells #[.slice p1 n1 c1, .slice p2 n2 c2, .slice p3 n3 c3] 40)).heap.size) := by rw [← hw4]; exact Nat.le_trans hsz hB4.size
        clear hB4 hw4
        go_wp2_with (at_builtin; refine wpList_append_own _ rfl _ _ 29 rfl (w.heap.size + 1) 40 ir (.agg #[.slice none 0 0, .slice none 0 0, .slice none 0 0]) 3 72 Tryd.underlying29 hir hr0 hr1 hr2 rfl (by decide) _ _ _ rfl HO5.out ⟨w2.heap.size, 0, none⟩ 1 1 [.slice p1 n1 c1, .slice p2 n2 c2, .slice p3 n3 c3] rfl rfl cells3_new (by simp [Value.oneCell']) (by unfold maxLen; omega) (by omega) HS4.out ?_; intro v' w5 hown' hgrow hnil)
        rw [← HW4.out] at hgrow
        have HO6 : Hid (w5.ownsRow (w.heap.size + 1) 40 3 v' (L ++ [((rk, .slice p1 n1 c1, .slice p2 n2 c2, .slice p3 n3 c3) : RV)]).length (flatG (L ++ [((rk, .slice p1 n1 c1, .slice p2 n2 c2, .slice p3 n3 c3) : RV)]))) := by
          show w5.ownsRow _ _ _ _ _ _
          rw [flatG_append, List.length_append]
          exact hown'
        have HP6 : Hid (PlIs w5 (w.heap.size + 1) w.heap.size n (placesK held side (k + 1))) := by
          rw [HN2.out]
          exact HP4.out.grown HO4.out (by decide) hgrow
        have HB6 : Hid (Below w.heap.size w w5) := HB4.out.grown hgrow HB4.out.size (fun j hj => Nat.le_trans (Nat.le_succ _) (World.ownsRow.lt HO4.out j hj).1)
        have HSt6 : Hid (StG w0 (L ++ [((rk, .slice p1 n1 c1, .slice p2 n2 c2, .slice p3 n3 c3) : RV)])) := HSt.out.append (fun q hq => by
          rw [List.mem_singleton] at hq
          subst hq
          exact HS3.out)
        have HM6 : Hid ((L ++ [((rk, .slice p1 n1 c1, .slice p2 n2 c2, .slice p3 n3 c3) : RV)]).map (·.1) = whatP (held.take (k + 1)) side) := by
          show _ = _
          rw [List.map_append, HMp.out, HN1.out]
          rfl
        have HZ6 : Hid (w.heap.size + 1 ≤ w5.heap.size) := by
          have h1 := HS4.out
          rw [← HW4.out] at h1
          exact Nat.le_trans h1 hgrow.size
        clear hown' hgrow hnil
        go_wp2_with fail
        go_roundw
        case rel => exact ⟨k + 1, n, _, by omega, by go_num, HM6.out, HO6.out, HSt6.out, by rw [List.length_append]; exact Nat.succ_le_succ hlen, HP6.out, Nat.le_trans hnk (Nat.mul_le_mul_right _ (Nat.le_succ k)), HB6.out, HZ6.out⟩
        case measure => simp [intOf]; omega
      · obtain ⟨hi1, hi2⟩ := HOu.out hin
        have HCt : Hid (∀ u w2, Strs w2 u T → Calls Tryd.prog 54 #[u, .string (Ba (signP side))] w2 fun e w' => e = .returned (.bool false) ∧ w' = w2) := fun u w2 h => by
          have := contains_of u T (signP side) w2 h
          rw [decide_eq_false hin] at this
          exact this
        have HN1 : Hid (whatP (held.take (k + 1)) side = whatP (held.take k) side) := hi1
        have HN2 : Hid (placesJ held side k T T.length = placesK held side (k + 1)) := hi2
        clear hi1 hi2 HIn HOu hin
        generalize Ba (signP side) = sg at *
        go_wp2_with fail
        rw [← HWn.out]
        refine Calls.mono HWO.out ?_
        rintro e w2 ⟨u, rfl, hu1, hu2, hb2⟩
        obtain ⟨gu, cu, rfl, hgu, hrt⟩ := hu1.row hu2
        have HSu : Hid (Strs w2 (.slice (some ⟨gu, 0, none⟩) T.length cu) T) := hu1.strs
        have HBr : Hid (Below wr.heap.size wr w2) := HBn.out.trans (hb2.mono HBn.out.size)
        have HRt : Hid (RowT w2 gu cu T) := hrt
        have HO2 : Hid (w2.ownsRow (w.heap.size + 1) 40 3 u4 L.length (flatG L)) := own_belowG HO.out HBr.out
        have HP2 : Hid (PlIs w2 (w.heap.size + 1) w.heap.size n (placesJ held side k T 0)) := by
          rw [placesJ_zero]
          exact HP.out.below HBr.out
        have HB2 : Hid (Below w.heap.size w w2) := HB.out.trans (HBr.out.mono HB.out.size)
        have HZ2 : Hid (w.heap.size + 1 ≤ w2.heap.size) := Nat.le_trans hsz HBr.out.size
        have HTc : Hid (T.length ≤ cu) := hrt.le
        clear hu1 hu2 hb2 hgu hrt
        go_wp2_with fail
        refine Calls.mono (HSg.out _) ?_
        rintro e w3 ⟨rfl, hw3⟩
        obtain rfl : w2 = w3 := hw3.symm
        go_wp2_with fail
        refine Calls.mono (HCt.out _ w2 HSu.out) ?_
        rintro e w3 ⟨rfl, hw3⟩
        obtain rfl : w2 = w3 := hw3.symm
        go_wp2_with fail
        go_loopw [32] (fun jv wq => ∃ (j m : Nat), j ≤ T.length ∧ jv = .int .i64 j ∧ PlIs wq (w.heap.size + 1) w.heap.size m (placesJ held side k T j) ∧ m ≤ n + j ∧ wq.ownsRow (w.heap.size + 1) 40 3 u4 L.length (flatG L) ∧ RowT wq gu cu T ∧ Below w.heap.size w wq ∧ w.heap.size + 1 ≤ wq.heap.size) (fun jv _ => T.length - (intOf jv).toNat)
        case atStart => exact ⟨0, n, Nat.zero_le _, rfl, HP2.out, Nat.le_refl _, HO2.out, HRt.out, HB2.out, HZ2.out⟩
        case round =>
          obtain ⟨j, m, hj, rfl, ⟨D, hgp, hnd⟩, hmn, hown, hrt, hbel, hszq⟩ := hrel
          rename World => wq
          have HG : Hid (Grp wq (w.heap.size + 1) w.heap.size m D) := hgp
          have HD : Hid (∀ s : Bs, Nd (placesJ held side k T j s) (D.atKey (.string s) .nil)) := hnd
          have HOq : Hid (wq.ownsRow (w.heap.size + 1) 40 3 u4 L.length (flatG L)) := hown
          have HRq : Hid (RowT wq gu cu T) := hrt
          have HBq : Hid (Below w.heap.size w wq) := hbel
          clear hgp hnd hown hrt hbel HO2 HP2 HB2 HRt
          by_cases hjt : j < T.length
          · have hc0 := HRq.out.cell (List.getElem?_eq_getElem hjt)
            have hkey : keyOf Tryd.prog 9 (.string (Ba T[j])) = some (.string T[j]) := keyS _ (HTf.out _ (List.getElem_mem hjt))
            have hjI : (j : Int) < (T.length : Int) := by omega
            have HJ1 : Hid (placesJ held side k T (j + 1) T[j] = placesJ held side k T j T[j] ++ [k]) := placesJ_here hjt HNd.out
            have HJ2 : Hid (∀ t, t ≠ T[j] → placesJ held side k T (j + 1) t = placesJ held side k T j t) := fun t ht => placesJ_other hjt ht
            have hmm1 : m < maxLen := by have := HTl.out; unfold maxLen; omega
            have HTl2 : Hid (m + 1 ≤ 1099512676353) := by show _ ≤ _; have := HTl.out; omega
            have hTle := HTl.out
            generalize T[j] = s at *
            generalize hy : Ba s = y at *
            clear hy
            go_wp2_with (first
              | (at_lookup; refine wpList_lookup_groups _ rfl _ _ 92 rfl 9 97 3 .i64 lawS Tryd.underlying92 (zeroI _) (w.heap.size + 1) w.heap.size m D rfl HG.out hmm1 _ _ rfl hkey ?_; intro v zs hat hoi hzl hback)
              | (at_builtin; refine wpList_append_own_at _ rfl _ _ 97 rfl (w.heap.size + 1) 3 ii (.int .i64 0) 1 8 Tryd.underlying97 hii hi0 hi1 hi2 rfl (by decide) _ _ _ rfl (hoi.1.alloc _) ⟨wq.heap.size, 0, none⟩ 1 1 [.int .i64 k] rfl rfl (cell_one_new _ _ _) (by simp [Value.oneCell']) (by have := HTl2.out; unfold maxLen; omega) (by have := HTl2.out; omega) (by simp; omega) ?_; intro v' w6 hown' hgrow hnil hloc)
              | (at_mapUpdate; refine wpList_mapUpdate_back _ rfl _ _ _ 92 rfl hback rfl rfl rfl ((World.grownBy_alloc _ _ _).trans hgrow) (hoi.appended hown' (WalkArith.wf_i64 (by omega))) (by simp; omega) (hloc.imp id (fun h => ⟨_, h, by simp⟩)) ?_; intro w7 hown2 hgrow2))
            have hall := (World.grownBy_alloc wq (.cells #[.int .i64 k] 3) v.ownBlock).trans hgrow
            have hoi1 := hoi.appended hown' (WalkArith.wf_i64 (by omega))
            have HP8 : Hid (PlIs w7 (w.heap.size + 1) w.heap.size (m + 1) (placesJ held side k T (j + 1))) :=
              ⟨_, hown2, nd_put HG.out.isMap HD.out s (Nd.of hoi1 (by rw [Nd.ints (hat ▸ HD.out s) hoi, ← intsN_add])) HJ1.out HJ2.out⟩
            have HO8 : Hid (w7.ownsRow (w.heap.size + 1) 40 3 u4 L.length (flatG L)) := World.ownsRow.kept (World.ownsRow.kept HOq.out hall (rows_ne HOq.out hoi.1 (by decide))) hgrow2 (Or.inr (HG.out.row_ne HOq.out))
            have HR8 : Hid (RowT w7 gu cu T) := (HRq.out.kept hall (HRq.out.ne hoi.1 (by decide))).kept hgrow2 (HG.out.rowT_ne HRq.out)
            have HB8 : Hid (Below w.heap.size w w7) := HBq.out.groups hoi hall hgrow2 HBq.out.size (Nat.le_succ _) (Nat.le_refl _)
            have HZ8 : Hid (w.heap.size + 1 ≤ w7.heap.size) := Nat.le_trans hszq (Nat.le_trans hall.size hgrow2.size)
            clear hall hoi1 hat hoi hown' hgrow hnil hloc hown2 hgrow2 hback
            go_roundw
            case rel => exact ⟨j + 1, m + 1, by omega, by go_num, HP8.out, by omega, HO8.out, HR8.out, HB8.out, HZ8.out⟩
            case measure => simp [intOf]; omega
          · have hjE : j = T.length := by omega
            have hjI : ¬ ((j : Int) < (T.length : Int)) := by omega
            have HP8 : Hid (PlIs wq (w.heap.size + 1) w.heap.size m (placesK held side (k + 1))) := by
              have h : PlIs wq (w.heap.size + 1) w.heap.size m (placesJ held side k T j) := ⟨D, HG.out, HD.out⟩
              rw [hjE, HN2.out] at h
              exact h
            have HM8 : Hid (L.map (·.1) = whatP (held.take (k + 1)) side) := HMp.out.trans HN1.out.symm
            have HNb : Hid (m ≤ (k + 1) * 1048576) := by
              have := HTl.out
              show _ ≤ _
              rw [Nat.succ_mul]
              omega
            clear hjE HD HG
            go_wp2_with fail
            go_roundw
            case rel => exact ⟨k + 1, m, L, by omega, by go_num, HM8.out, HOq.out, HSt.out, Nat.le_succ_of_le hlen, HP8.out, HNb.out, HBq.out, hszq⟩
            case measure => simp [intOf]; omega
    · have hkE : k = held.length := by omega
      have hkI : ¬ ((k : Int) < (held.length : Int)) := by omega
      have HR1 : Hid (L.map (·.1) = whatP held side) := by
        have h := HMp.out
        rw [hkE, List.take_of_length_le (Nat.le_refl _)] at h
        exact h
      have HR2 : Hid (PlIs wr (w.heap.size + 1) w.heap.size n (placesP held side)) := by
        have h := HP.out
        rw [hkE] at h
        exact h
      have HR3 : Hid (n ≤ held.length * 1048576) := by rw [hkE] at hnk; exact hnk
      clear HMp HP hkE
      go_wp2_with fail
      exact bodyPost_ret (v := .tuple #[u4, .map (some w.heap.size)]) (by simp [results, Tryd.results56, go_sem]) rfl ⟨u4, rfl, L, HR1.out, HO.out, HSt.out, n, HR2.out, HR3.out, HB.out⟩
theorem parted_any (v : Value) (held : List Rl) (side : Nat) (w : World) (hv : Rls w v held) (hs : side ≤ 2) (hl : held.length ≤ 1048576) (hsm : ∀ r ∈ held, SmR r) :
    Calls Tryd.prog 56 #[v, .int .i64 side] w fun e w' => ∃ (y : Value) (L : List RV) (n : Nat), e = .returned (.tuple #[y, .map (some w.heap.size)]) ∧ L.map (·.1) = whatP held side ∧ w'.ownsRow (w.heap.size + 1) 40 3 y L.length (flatG L) ∧ StG w L ∧
      PlIs w' (w.heap.size + 1) w.heap.size n (placesP held side) ∧ n ≤ held.length * 1048576 ∧ Below w.heap.size w w' :=
  parted_from v held side w w hv (Below.refl _ _) hs hl hsm
end Go.Proofs.YtnjjlnhchfoigabDoor
