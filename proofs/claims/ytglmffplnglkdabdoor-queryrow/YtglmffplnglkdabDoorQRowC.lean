/- Cases of the walk of the law QueryRow. -/
import Derived.Test.YtglmffplnglkdabDoorQRow
namespace Go.Proofs.YtglmffplnglkdabDoor
open Go.RowKit
set_option linter.unusedVariables false
set_option linter.unusedSimpArgs false
set_option maxRecDepth 100000 in
set_option maxHeartbeats 4000000 in
theorem row_5bnb (p : Option Addr) (nl c : Nat) (p2 : Option Addr) (nm c2 : Nat) (z : Bool) (l n : List Rq) (vv : Bool) (ee : Int) (hee : ee ≠ 0) (w : World) (hi1 : IS w (.slice p nl c) (.slice p2 nm c2) (true, 0)) (hi2 : IS w (.slice p2 nm c2) (.slice none 0 0) (false, 0)) (hi3 : IS w (.slice p nl c) (.slice none 0 0) (z, 0)) (hi4 : IS w (.slice p nl c) (.slice p nl c) (true, 0)) (hS : ∀ w1, Below w.heap.size w w1 → Calls Tryd.prog 7 #[] w1 fun e w' => e = .returned (.bool true) ∧ Below w1.heap.size w1 w') (hCo : ∀ w1, Below w.heap.size w w1 → Calls Tryd.prog 12 #[.slice p nl c] w1 fun e w' => ∃ u, e = .returned u ∧ OwnR w1 w1.heap.size w' u l ∧ Below w1.heap.size w1 w') (hFin : ∀ w0 w1 v', Below w.heap.size w w0 → Below w0.heap.size w0 w1 → OwnR w0 w0.heap.size w1 v' (l ++ n) → Calls Tryd.prog 10 #[v', .slice p nl c] w1 fun e w' => (∃ p n c, e = .returned (.tuple #[.bool vv, .slice p n c, .int .i64 ee])) ∧ Below w1.heap.size w1 w') (hn0 : n = []) :
    Calls Tryd.prog 6 #[.slice p nl c, .slice p2 nm c2, .slice none 0 0] w fun e w' => e = .returned (.bool true) ∧ Below w.heap.size w w' := by
  have HI1 : Hid (∀ w1, Below w.heap.size w w1 → Calls Tryd.prog 10 #[.slice p nl c, .slice p2 nm c2] w1 fun e w' => (∃ p n c, e = .returned (.tuple #[.bool true, .slice p n c, .int .i64 0])) ∧ Below w1.heap.size w1 w') := hi1
  have HI2 : Hid (∀ w1, Below w.heap.size w w1 → Calls Tryd.prog 10 #[.slice p2 nm c2, .slice none 0 0] w1 fun e w' => (∃ p n c, e = .returned (.tuple #[.bool false, .slice p n c, .int .i64 0])) ∧ Below w1.heap.size w1 w') := hi2
  have HI3 : Hid (∀ w1, Below w.heap.size w w1 → Calls Tryd.prog 10 #[.slice p nl c, .slice none 0 0] w1 fun e w' => (∃ p n c, e = .returned (.tuple #[.bool z, .slice p n c, .int .i64 0])) ∧ Below w1.heap.size w1 w') := hi3
  have HI4 : Hid (∀ w1, Below w.heap.size w w1 → Calls Tryd.prog 10 #[.slice p nl c, .slice p nl c] w1 fun e w' => (∃ p n c, e = .returned (.tuple #[.bool true, .slice p n c, .int .i64 0])) ∧ Below w1.heap.size w1 w') := hi4
  have HS : Hid (∀ w1, Below w.heap.size w w1 → Calls Tryd.prog 7 #[] w1 fun e w' => e = .returned (.bool true) ∧ Below w1.heap.size w1 w') := hS
  obtain ⟨i0, hi, hz0, hz1, hz2⟩ := info_parts info_req
  have HCo : Hid (∀ w1, Below w.heap.size w w1 → Calls Tryd.prog 12 #[.slice p nl c] w1 fun e w' => ∃ u, e = .returned u ∧ OwnR w1 w1.heap.size w' u l ∧ Below w1.heap.size w1 w') := hCo
  subst hn0
  rw [List.append_nil] at hFin
  have HFin : Hid (∀ w0 w1 v', Below w.heap.size w w0 → Below w0.heap.size w0 w1 → OwnR w0 w0.heap.size w1 v' l → Calls Tryd.prog 10 #[v', .slice p nl c] w1 fun e w' => (∃ p n c, e = .returned (.tuple #[.bool vv, .slice p n c, .int .i64 ee])) ∧ Below w1.heap.size w1 w') := hFin
  have heeb : (ee != 0) = true := by simpa using hee
  clear hee
  clear hCo hFin
  clear hi1 hi2 hi3 hi4 hS
  go_enter Tryd.func6, Tryd.ntmps6
  go_wp2_with fail
  refine Calls.mono (HI1.out w (Below.refl _ _)) ?_
  rintro e w1 ⟨⟨qq1, ii1, cc1, rfl⟩, b1⟩
  have HB1 : Hid (Below w.heap.size w w1) := b1
  clear b1
  go_wp2_with fail
  refine Calls.mono (HI2.out w1 HB1.out) ?_
  rintro e w2 ⟨⟨qq2, ii2, cc2, rfl⟩, b2⟩
  have HB2 : Hid (Below w.heap.size w w2) := HB1.out.trans (b2.mono HB1.out.size)
  clear b2
  go_wp2_with fail
  refine Calls.mono (HI3.out w2 HB2.out) ?_
  rintro e w3 ⟨⟨qq3, ii3, cc3, rfl⟩, b3⟩
  have HB3 : Hid (Below w.heap.size w w3) := HB2.out.trans (b3.mono HB2.out.size)
  clear b3
  go_wp2_with fail
  refine Calls.mono (HI4.out w3 HB3.out) ?_
  rintro e w4 ⟨⟨qq4, ii4, cc4, rfl⟩, b4⟩
  have HB4 : Hid (Below w.heap.size w w4) := HB3.out.trans (b4.mono HB3.out.size)
  clear b4
  go_wp2_with fail
  refine Calls.mono (HS.out w4 HB4.out) ?_
  rintro e w5 ⟨rfl, b5⟩
  have HB5 : Hid (Below w.heap.size w w5) := HB4.out.trans (b5.mono HB4.out.size)
  clear b5
  go_wp2_with fail
  refine Calls.mono (HCo.out w5 HB5.out) ?_
  rintro e w6 ⟨u, rfl, hown, b6⟩
  have HB65 : Hid (Below w5.heap.size w5 w6) := b6
  have HB6 : Hid (Below w.heap.size w w6) := HB5.out.trans (b6.mono HB5.out.size)
  have HFi : Hid (Calls Tryd.prog 10 #[u, .slice p nl c] w6 fun e w' => (∃ p n c, e = .returned (.tuple #[.bool vv, .slice p n c, .int .i64 ee])) ∧ Below w6.heap.size w6 w') := HFin.out w5 w6 u HB5.out HB65.out hown
  obtain ⟨Lp, hL, hSt, hO⟩ := hown
  have HO : Hid (w6.ownsRow w5.heap.size 24 3 u Lp.length (flatR Lp)) := hO
  clear hL hSt hO b6
  go_wp2_with (at_builtin; refine wpList_append_own_none rfl _ _ 30 rfl w5.heap.size 24 i0 3 Tryd.underlying30 hi _ _ _ rfl HO.out rfl ?_)
  refine Calls.mono HFi.out ?_
  rintro e w7 ⟨⟨qq7, ii7, cc7, rfl⟩, b7⟩
  have HB7 : Hid (Below w.heap.size w w7) := HB6.out.trans (b7.mono HB6.out.size)
  clear b7
  go_wp2_with fail
  go_ret
  exact ⟨rfl, HB7.out⟩
set_option maxRecDepth 100000 in
set_option maxHeartbeats 4000000 in
theorem row_5bng (p : Option Addr) (nl c : Nat) (p2 : Option Addr) (nm c2 : Nat) (z : Bool) (l n : List Rq) (w : World) (hi1 : IS w (.slice p nl c) (.slice p2 nm c2) (true, 0)) (hi2 : IS w (.slice p2 nm c2) (.slice none 0 0) (false, 0)) (hi3 : IS w (.slice p nl c) (.slice none 0 0) (z, 0)) (hi4 : IS w (.slice p nl c) (.slice p nl c) (true, 0)) (hS : ∀ w1, Below w.heap.size w w1 → Calls Tryd.prog 7 #[] w1 fun e w' => e = .returned (.bool true) ∧ Below w1.heap.size w1 w') (hCo : ∀ w1, Below w.heap.size w w1 → Calls Tryd.prog 12 #[.slice p nl c] w1 fun e w' => ∃ u, e = .returned u ∧ OwnR w1 w1.heap.size w' u l ∧ Below w1.heap.size w1 w') (hFin : ∀ w0 w1 v', Below w.heap.size w w0 → Below w0.heap.size w0 w1 → OwnR w0 w0.heap.size w1 v' (l ++ n) → Calls Tryd.prog 10 #[v', .slice p nl c] w1 fun e w' => (∃ p n c, e = .returned (.tuple #[.bool true, .slice p n c, .int .i64 0])) ∧ Below w1.heap.size w1 w') (hn0 : n = []) :
    Calls Tryd.prog 6 #[.slice p nl c, .slice p2 nm c2, .slice none 0 0] w fun e w' => e = .returned (.bool true) ∧ Below w.heap.size w w' := by
  have HI1 : Hid (∀ w1, Below w.heap.size w w1 → Calls Tryd.prog 10 #[.slice p nl c, .slice p2 nm c2] w1 fun e w' => (∃ p n c, e = .returned (.tuple #[.bool true, .slice p n c, .int .i64 0])) ∧ Below w1.heap.size w1 w') := hi1
  have HI2 : Hid (∀ w1, Below w.heap.size w w1 → Calls Tryd.prog 10 #[.slice p2 nm c2, .slice none 0 0] w1 fun e w' => (∃ p n c, e = .returned (.tuple #[.bool false, .slice p n c, .int .i64 0])) ∧ Below w1.heap.size w1 w') := hi2
  have HI3 : Hid (∀ w1, Below w.heap.size w w1 → Calls Tryd.prog 10 #[.slice p nl c, .slice none 0 0] w1 fun e w' => (∃ p n c, e = .returned (.tuple #[.bool z, .slice p n c, .int .i64 0])) ∧ Below w1.heap.size w1 w') := hi3
  have HI4 : Hid (∀ w1, Below w.heap.size w w1 → Calls Tryd.prog 10 #[.slice p nl c, .slice p nl c] w1 fun e w' => (∃ p n c, e = .returned (.tuple #[.bool true, .slice p n c, .int .i64 0])) ∧ Below w1.heap.size w1 w') := hi4
  have HS : Hid (∀ w1, Below w.heap.size w w1 → Calls Tryd.prog 7 #[] w1 fun e w' => e = .returned (.bool true) ∧ Below w1.heap.size w1 w') := hS
  obtain ⟨i0, hi, hz0, hz1, hz2⟩ := info_parts info_req
  have HCo : Hid (∀ w1, Below w.heap.size w w1 → Calls Tryd.prog 12 #[.slice p nl c] w1 fun e w' => ∃ u, e = .returned u ∧ OwnR w1 w1.heap.size w' u l ∧ Below w1.heap.size w1 w') := hCo
  subst hn0
  rw [List.append_nil] at hFin
  have HFin : Hid (∀ w0 w1 v', Below w.heap.size w w0 → Below w0.heap.size w0 w1 → OwnR w0 w0.heap.size w1 v' l → Calls Tryd.prog 10 #[v', .slice p nl c] w1 fun e w' => (∃ p n c, e = .returned (.tuple #[.bool true, .slice p n c, .int .i64 0])) ∧ Below w1.heap.size w1 w') := hFin
  clear hCo hFin
  clear hi1 hi2 hi3 hi4 hS
  go_enter Tryd.func6, Tryd.ntmps6
  go_wp2_with fail
  refine Calls.mono (HI1.out w (Below.refl _ _)) ?_
  rintro e w1 ⟨⟨qq1, ii1, cc1, rfl⟩, b1⟩
  have HB1 : Hid (Below w.heap.size w w1) := b1
  clear b1
  go_wp2_with fail
  refine Calls.mono (HI2.out w1 HB1.out) ?_
  rintro e w2 ⟨⟨qq2, ii2, cc2, rfl⟩, b2⟩
  have HB2 : Hid (Below w.heap.size w w2) := HB1.out.trans (b2.mono HB1.out.size)
  clear b2
  go_wp2_with fail
  refine Calls.mono (HI3.out w2 HB2.out) ?_
  rintro e w3 ⟨⟨qq3, ii3, cc3, rfl⟩, b3⟩
  have HB3 : Hid (Below w.heap.size w w3) := HB2.out.trans (b3.mono HB2.out.size)
  clear b3
  go_wp2_with fail
  refine Calls.mono (HI4.out w3 HB3.out) ?_
  rintro e w4 ⟨⟨qq4, ii4, cc4, rfl⟩, b4⟩
  have HB4 : Hid (Below w.heap.size w w4) := HB3.out.trans (b4.mono HB3.out.size)
  clear b4
  go_wp2_with fail
  refine Calls.mono (HS.out w4 HB4.out) ?_
  rintro e w5 ⟨rfl, b5⟩
  have HB5 : Hid (Below w.heap.size w w5) := HB4.out.trans (b5.mono HB4.out.size)
  clear b5
  go_wp2_with fail
  refine Calls.mono (HCo.out w5 HB5.out) ?_
  rintro e w6 ⟨u, rfl, hown, b6⟩
  have HB65 : Hid (Below w5.heap.size w5 w6) := b6
  have HB6 : Hid (Below w.heap.size w w6) := HB5.out.trans (b6.mono HB5.out.size)
  have HFi : Hid (Calls Tryd.prog 10 #[u, .slice p nl c] w6 fun e w' => (∃ p n c, e = .returned (.tuple #[.bool true, .slice p n c, .int .i64 0])) ∧ Below w6.heap.size w6 w') := HFin.out w5 w6 u HB5.out HB65.out hown
  obtain ⟨Lp, hL, hSt, hO⟩ := hown
  have HO : Hid (w6.ownsRow w5.heap.size 24 3 u Lp.length (flatR Lp)) := hO
  clear hL hSt hO b6
  go_wp2_with (at_builtin; refine wpList_append_own_none rfl _ _ 30 rfl w5.heap.size 24 i0 3 Tryd.underlying30 hi _ _ _ rfl HO.out rfl ?_)
  refine Calls.mono HFi.out ?_
  rintro e w7 ⟨⟨qq7, ii7, cc7, rfl⟩, b7⟩
  have HB7 : Hid (Below w.heap.size w w7) := HB6.out.trans (b7.mono HB6.out.size)
  clear b7
  go_wp2_with fail
  go_ret
  exact ⟨rfl, HB7.out⟩
set_option maxRecDepth 100000 in
set_option maxHeartbeats 4000000 in
theorem row_5bsb (p : Option Addr) (nl c : Nat) (p2 : Option Addr) (nm c2 : Nat) (z : Bool) (l n : List Rq) (vv : Bool) (ee : Int) (hee : ee ≠ 0) (ad : Addr) (c3 : Nat) (Np : List (Rq × Value)) (w : World) (hi1 : IS w (.slice p nl c) (.slice p2 nm c2) (true, 0)) (hi2 : IS w (.slice p2 nm c2) (.slice (some ad) Np.length c3) (false, 0)) (hi3 : IS w (.slice p nl c) (.slice (some ad) Np.length c3) (z, 0)) (hi4 : IS w (.slice p nl c) (.slice p nl c) (true, 0)) (hS : ∀ w1, Below w.heap.size w w1 → Calls Tryd.prog 7 #[] w1 fun e w' => e = .returned (.bool true) ∧ Below w1.heap.size w1 w') (hCo : ∀ w1, Below w.heap.size w w1 → Calls Tryd.prog 12 #[.slice p nl c] w1 fun e w' => ∃ u, e = .returned u ∧ OwnR w1 w1.heap.size w' u l ∧ Below w1.heap.size w1 w') (hFin : ∀ w0 w1 v', Below w.heap.size w w0 → Below w0.heap.size w0 w1 → OwnR w0 w0.heap.size w1 v' (l ++ n) → Calls Tryd.prog 10 #[v', .slice p nl c] w1 fun e w' => (∃ p n c, e = .returned (.tuple #[.bool vv, .slice p n c, .int .i64 ee])) ∧ Below w1.heap.size w1 w') (hl8 : l.length ≤ 8) (hn48 : Np.length * 48 ≤ 140737488351232) (hNm : Np.map (·.1) = n) (hNs : ∀ p ∈ Np, Strs w p.2 p.1.2.2) (hNl : (flatR Np).length = Np.length * 3) (hN1 : ∀ u ∈ flatR Np, u.oneCell' = true) (hNc : ∀ w1, Below w.heap.size w w1 → ∀ (j : Nat) (u : Value), (flatR Np)[j]? = some u → w1.cell? (ad.add j) = some u) :
    Calls Tryd.prog 6 #[.slice p nl c, .slice p2 nm c2, .slice (some ad) Np.length c3] w fun e w' => e = .returned (.bool true) ∧ Below w.heap.size w w' := by
  have HI1 : Hid (∀ w1, Below w.heap.size w w1 → Calls Tryd.prog 10 #[.slice p nl c, .slice p2 nm c2] w1 fun e w' => (∃ p n c, e = .returned (.tuple #[.bool true, .slice p n c, .int .i64 0])) ∧ Below w1.heap.size w1 w') := hi1
  have HI2 : Hid (∀ w1, Below w.heap.size w w1 → Calls Tryd.prog 10 #[.slice p2 nm c2, .slice (some ad) Np.length c3] w1 fun e w' => (∃ p n c, e = .returned (.tuple #[.bool false, .slice p n c, .int .i64 0])) ∧ Below w1.heap.size w1 w') := hi2
  have HI3 : Hid (∀ w1, Below w.heap.size w w1 → Calls Tryd.prog 10 #[.slice p nl c, .slice (some ad) Np.length c3] w1 fun e w' => (∃ p n c, e = .returned (.tuple #[.bool z, .slice p n c, .int .i64 0])) ∧ Below w1.heap.size w1 w') := hi3
  have HI4 : Hid (∀ w1, Below w.heap.size w w1 → Calls Tryd.prog 10 #[.slice p nl c, .slice p nl c] w1 fun e w' => (∃ p n c, e = .returned (.tuple #[.bool true, .slice p n c, .int .i64 0])) ∧ Below w1.heap.size w1 w') := hi4
  have HS : Hid (∀ w1, Below w.heap.size w w1 → Calls Tryd.prog 7 #[] w1 fun e w' => e = .returned (.bool true) ∧ Below w1.heap.size w1 w') := hS
  obtain ⟨i0, hi, hz0, hz1, hz2⟩ := info_parts info_req
  have HCo : Hid (∀ w1, Below w.heap.size w w1 → Calls Tryd.prog 12 #[.slice p nl c] w1 fun e w' => ∃ u, e = .returned u ∧ OwnR w1 w1.heap.size w' u l ∧ Below w1.heap.size w1 w') := hCo
  have HFin : Hid (∀ w0 w1 v', Below w.heap.size w w0 → Below w0.heap.size w0 w1 → OwnR w0 w0.heap.size w1 v' (l ++ n) → Calls Tryd.prog 10 #[v', .slice p nl c] w1 fun e w' => (∃ p n c, e = .returned (.tuple #[.bool vv, .slice p n c, .int .i64 ee])) ∧ Below w1.heap.size w1 w') := hFin
  have HNm : Hid (Np.map (·.1) = n) := hNm
  have HNs : Hid (∀ p ∈ Np, Strs w p.2 p.1.2.2) := hNs
  have HNl : Hid ((flatR Np).length = Np.length * 3) := hNl
  have HN1 : Hid (∀ u ∈ flatR Np, u.oneCell' = true) := hN1
  have HNc : Hid (∀ w1, Below w.heap.size w w1 → ∀ (j : Nat) (u : Value), (flatR Np)[j]? = some u → w1.cell? (ad.add j) = some u) := hNc
  clear hNm hNs hNl hN1 hNc
  have heeb : (ee != 0) = true := by simpa using hee
  clear hee
  clear hCo hFin
  clear hi1 hi2 hi3 hi4 hS
  go_enter Tryd.func6, Tryd.ntmps6
  go_wp2_with fail
  refine Calls.mono (HI1.out w (Below.refl _ _)) ?_
  rintro e w1 ⟨⟨qq1, ii1, cc1, rfl⟩, b1⟩
  have HB1 : Hid (Below w.heap.size w w1) := b1
  clear b1
  go_wp2_with fail
  refine Calls.mono (HI2.out w1 HB1.out) ?_
  rintro e w2 ⟨⟨qq2, ii2, cc2, rfl⟩, b2⟩
  have HB2 : Hid (Below w.heap.size w w2) := HB1.out.trans (b2.mono HB1.out.size)
  clear b2
  go_wp2_with fail
  refine Calls.mono (HI3.out w2 HB2.out) ?_
  rintro e w3 ⟨⟨qq3, ii3, cc3, rfl⟩, b3⟩
  have HB3 : Hid (Below w.heap.size w w3) := HB2.out.trans (b3.mono HB2.out.size)
  clear b3
  go_wp2_with fail
  refine Calls.mono (HI4.out w3 HB3.out) ?_
  rintro e w4 ⟨⟨qq4, ii4, cc4, rfl⟩, b4⟩
  have HB4 : Hid (Below w.heap.size w w4) := HB3.out.trans (b4.mono HB3.out.size)
  clear b4
  go_wp2_with fail
  refine Calls.mono (HS.out w4 HB4.out) ?_
  rintro e w5 ⟨rfl, b5⟩
  have HB5 : Hid (Below w.heap.size w w5) := HB4.out.trans (b5.mono HB4.out.size)
  clear b5
  go_wp2_with fail
  refine Calls.mono (HCo.out w5 HB5.out) ?_
  rintro e w6 ⟨u, rfl, hown, b6⟩
  have HB65 : Hid (Below w5.heap.size w5 w6) := b6
  have HB6 : Hid (Below w.heap.size w w6) := HB5.out.trans (b6.mono HB5.out.size)
  obtain ⟨Lp, hL, hSt, hO⟩ := hown
  have hLl : Lp.length = l.length := by rw [← hL, List.length_map]
  have hLe : Lp.length ≤ 8 := by omega
  have HO : Hid (w6.ownsRow w5.heap.size 24 3 u Lp.length (flatR Lp)) := hO
  have HL : Hid (Lp.map (·.1) = l) := hL
  have HSt : Hid (∀ p ∈ Lp, Strs w5 p.2 p.1.2.2) := hSt
  have HN6 : Hid (∀ (j : Nat) (u : Value), (flatR Np)[j]? = some u → w6.cell? (ad.add j) = some u) := HNc.out w6 HB6.out
  have h56 := HB65.out.size
  clear hL hSt hO b6 hLl
  go_wp2_with (at_builtin; refine wpList_append_own _ rfl _ _ 30 rfl w5.heap.size 24 i0 (.agg #[.string ⟨#[]⟩, .int .i64 0, .slice none 0 0]) 3 48 Tryd.underlying30 hi hz0 hz1 hz2 rfl (by decide) _ _ _ rfl HO.out ad Np.length c3 (flatR Np) rfl HNl.out HN6.out HN1.out (by unfold maxLen; omega) (by omega) h56 ?_)
  intro v' w7 hown' hgrow _
  have HB75 : Hid (Below w5.heap.size w5 w7) := HB65.out.grown hgrow h56 (fun b hb => (World.ownsRow.lt HO.out b hb).1)
  have HB7 : Hid (Below w.heap.size w w7) := HB5.out.trans (HB75.out.mono HB5.out.size)
  have hR : OwnR w5 w5.heap.size w7 v' (l ++ n) := by
    refine ⟨Lp ++ Np, by rw [List.map_append, HL.out, HNm.out], fun p hp => ?_, by rw [List.length_append, flatR_append]; exact hown'⟩
    rcases List.mem_append.1 hp with hp | hp
    · exact HSt.out p hp
    · exact (HNs.out p hp).below HB5.out
  have HFi : Hid (Calls Tryd.prog 10 #[v', .slice p nl c] w7 fun e w' => (∃ p n c, e = .returned (.tuple #[.bool vv, .slice p n c, .int .i64 ee])) ∧ Below w7.heap.size w7 w') := HFin.out w5 w7 v' HB5.out HB75.out hR
  clear hR hown' hgrow h56
  go_wp2_with fail
  refine Calls.mono HFi.out ?_
  rintro e w8 ⟨⟨qq8, ii8, cc8, rfl⟩, b8⟩
  have HB8 : Hid (Below w.heap.size w w8) := HB7.out.trans (b8.mono HB7.out.size)
  clear b8
  go_wp2_with fail
  go_ret
  exact ⟨rfl, HB8.out⟩
set_option maxRecDepth 100000 in
set_option maxHeartbeats 4000000 in
theorem row_5bsg (p : Option Addr) (nl c : Nat) (p2 : Option Addr) (nm c2 : Nat) (z : Bool) (l n : List Rq) (ad : Addr) (c3 : Nat) (Np : List (Rq × Value)) (w : World) (hi1 : IS w (.slice p nl c) (.slice p2 nm c2) (true, 0)) (hi2 : IS w (.slice p2 nm c2) (.slice (some ad) Np.length c3) (false, 0)) (hi3 : IS w (.slice p nl c) (.slice (some ad) Np.length c3) (z, 0)) (hi4 : IS w (.slice p nl c) (.slice p nl c) (true, 0)) (hS : ∀ w1, Below w.heap.size w w1 → Calls Tryd.prog 7 #[] w1 fun e w' => e = .returned (.bool true) ∧ Below w1.heap.size w1 w') (hCo : ∀ w1, Below w.heap.size w w1 → Calls Tryd.prog 12 #[.slice p nl c] w1 fun e w' => ∃ u, e = .returned u ∧ OwnR w1 w1.heap.size w' u l ∧ Below w1.heap.size w1 w') (hFin : ∀ w0 w1 v', Below w.heap.size w w0 → Below w0.heap.size w0 w1 → OwnR w0 w0.heap.size w1 v' (l ++ n) → Calls Tryd.prog 10 #[v', .slice p nl c] w1 fun e w' => (∃ p n c, e = .returned (.tuple #[.bool true, .slice p n c, .int .i64 0])) ∧ Below w1.heap.size w1 w') (hl8 : l.length ≤ 8) (hn48 : Np.length * 48 ≤ 140737488351232) (hNm : Np.map (·.1) = n) (hNs : ∀ p ∈ Np, Strs w p.2 p.1.2.2) (hNl : (flatR Np).length = Np.length * 3) (hN1 : ∀ u ∈ flatR Np, u.oneCell' = true) (hNc : ∀ w1, Below w.heap.size w w1 → ∀ (j : Nat) (u : Value), (flatR Np)[j]? = some u → w1.cell? (ad.add j) = some u) :
    Calls Tryd.prog 6 #[.slice p nl c, .slice p2 nm c2, .slice (some ad) Np.length c3] w fun e w' => e = .returned (.bool true) ∧ Below w.heap.size w w' := by
  have HI1 : Hid (∀ w1, Below w.heap.size w w1 → Calls Tryd.prog 10 #[.slice p nl c, .slice p2 nm c2] w1 fun e w' => (∃ p n c, e = .returned (.tuple #[.bool true, .slice p n c, .int .i64 0])) ∧ Below w1.heap.size w1 w') := hi1
  have HI2 : Hid (∀ w1, Below w.heap.size w w1 → Calls Tryd.prog 10 #[.slice p2 nm c2, .slice (some ad) Np.length c3] w1 fun e w' => (∃ p n c, e = .returned (.tuple #[.bool false, .slice p n c, .int .i64 0])) ∧ Below w1.heap.size w1 w') := hi2
  have HI3 : Hid (∀ w1, Below w.heap.size w w1 → Calls Tryd.prog 10 #[.slice p nl c, .slice (some ad) Np.length c3] w1 fun e w' => (∃ p n c, e = .returned (.tuple #[.bool z, .slice p n c, .int .i64 0])) ∧ Below w1.heap.size w1 w') := hi3
  have HI4 : Hid (∀ w1, Below w.heap.size w w1 → Calls Tryd.prog 10 #[.slice p nl c, .slice p nl c] w1 fun e w' => (∃ p n c, e = .returned (.tuple #[.bool true, .slice p n c, .int .i64 0])) ∧ Below w1.heap.size w1 w') := hi4
  have HS : Hid (∀ w1, Below w.heap.size w w1 → Calls Tryd.prog 7 #[] w1 fun e w' => e = .returned (.bool true) ∧ Below w1.heap.size w1 w') := hS
  obtain ⟨i0, hi, hz0, hz1, hz2⟩ := info_parts info_req
  have HCo : Hid (∀ w1, Below w.heap.size w w1 → Calls Tryd.prog 12 #[.slice p nl c] w1 fun e w' => ∃ u, e = .returned u ∧ OwnR w1 w1.heap.size w' u l ∧ Below w1.heap.size w1 w') := hCo
  have HFin : Hid (∀ w0 w1 v', Below w.heap.size w w0 → Below w0.heap.size w0 w1 → OwnR w0 w0.heap.size w1 v' (l ++ n) → Calls Tryd.prog 10 #[v', .slice p nl c] w1 fun e w' => (∃ p n c, e = .returned (.tuple #[.bool true, .slice p n c, .int .i64 0])) ∧ Below w1.heap.size w1 w') := hFin
  have HNm : Hid (Np.map (·.1) = n) := hNm
  have HNs : Hid (∀ p ∈ Np, Strs w p.2 p.1.2.2) := hNs
  have HNl : Hid ((flatR Np).length = Np.length * 3) := hNl
  have HN1 : Hid (∀ u ∈ flatR Np, u.oneCell' = true) := hN1
  have HNc : Hid (∀ w1, Below w.heap.size w w1 → ∀ (j : Nat) (u : Value), (flatR Np)[j]? = some u → w1.cell? (ad.add j) = some u) := hNc
  clear hNm hNs hNl hN1 hNc
  clear hCo hFin
  clear hi1 hi2 hi3 hi4 hS
  go_enter Tryd.func6, Tryd.ntmps6
  go_wp2_with fail
  refine Calls.mono (HI1.out w (Below.refl _ _)) ?_
  rintro e w1 ⟨⟨qq1, ii1, cc1, rfl⟩, b1⟩
  have HB1 : Hid (Below w.heap.size w w1) := b1
  clear b1
  go_wp2_with fail
  refine Calls.mono (HI2.out w1 HB1.out) ?_
  rintro e w2 ⟨⟨qq2, ii2, cc2, rfl⟩, b2⟩
  have HB2 : Hid (Below w.heap.size w w2) := HB1.out.trans (b2.mono HB1.out.size)
  clear b2
  go_wp2_with fail
  refine Calls.mono (HI3.out w2 HB2.out) ?_
  rintro e w3 ⟨⟨qq3, ii3, cc3, rfl⟩, b3⟩
  have HB3 : Hid (Below w.heap.size w w3) := HB2.out.trans (b3.mono HB2.out.size)
  clear b3
  go_wp2_with fail
  refine Calls.mono (HI4.out w3 HB3.out) ?_
  rintro e w4 ⟨⟨qq4, ii4, cc4, rfl⟩, b4⟩
  have HB4 : Hid (Below w.heap.size w w4) := HB3.out.trans (b4.mono HB3.out.size)
  clear b4
  go_wp2_with fail
  refine Calls.mono (HS.out w4 HB4.out) ?_
  rintro e w5 ⟨rfl, b5⟩
  have HB5 : Hid (Below w.heap.size w w5) := HB4.out.trans (b5.mono HB4.out.size)
  clear b5
  go_wp2_with fail
  refine Calls.mono (HCo.out w5 HB5.out) ?_
  rintro e w6 ⟨u, rfl, hown, b6⟩
  have HB65 : Hid (Below w5.heap.size w5 w6) := b6
  have HB6 : Hid (Below w.heap.size w w6) := HB5.out.trans (b6.mono HB5.out.size)
  obtain ⟨Lp, hL, hSt, hO⟩ := hown
  have hLl : Lp.length = l.length := by rw [← hL, List.length_map]
  have hLe : Lp.length ≤ 8 := by omega
  have HO : Hid (w6.ownsRow w5.heap.size 24 3 u Lp.length (flatR Lp)) := hO
  have HL : Hid (Lp.map (·.1) = l) := hL
  have HSt : Hid (∀ p ∈ Lp, Strs w5 p.2 p.1.2.2) := hSt
  have HN6 : Hid (∀ (j : Nat) (u : Value), (flatR Np)[j]? = some u → w6.cell? (ad.add j) = some u) := HNc.out w6 HB6.out
  have h56 := HB65.out.size
  clear hL hSt hO b6 hLl
  go_wp2_with (at_builtin; refine wpList_append_own _ rfl _ _ 30 rfl w5.heap.size 24 i0 (.agg #[.string ⟨#[]⟩, .int .i64 0, .slice none 0 0]) 3 48 Tryd.underlying30 hi hz0 hz1 hz2 rfl (by decide) _ _ _ rfl HO.out ad Np.length c3 (flatR Np) rfl HNl.out HN6.out HN1.out (by unfold maxLen; omega) (by omega) h56 ?_)
  intro v' w7 hown' hgrow _
  have HB75 : Hid (Below w5.heap.size w5 w7) := HB65.out.grown hgrow h56 (fun b hb => (World.ownsRow.lt HO.out b hb).1)
  have HB7 : Hid (Below w.heap.size w w7) := HB5.out.trans (HB75.out.mono HB5.out.size)
  have hR : OwnR w5 w5.heap.size w7 v' (l ++ n) := by
    refine ⟨Lp ++ Np, by rw [List.map_append, HL.out, HNm.out], fun p hp => ?_, by rw [List.length_append, flatR_append]; exact hown'⟩
    rcases List.mem_append.1 hp with hp | hp
    · exact HSt.out p hp
    · exact (HNs.out p hp).below HB5.out
  have HFi : Hid (Calls Tryd.prog 10 #[v', .slice p nl c] w7 fun e w' => (∃ p n c, e = .returned (.tuple #[.bool true, .slice p n c, .int .i64 0])) ∧ Below w7.heap.size w7 w') := HFin.out w5 w7 v' HB5.out HB75.out hR
  clear hR hown' hgrow h56
  go_wp2_with fail
  refine Calls.mono HFi.out ?_
  rintro e w8 ⟨⟨qq8, ii8, cc8, rfl⟩, b8⟩
  have HB8 : Hid (Below w.heap.size w w8) := HB7.out.trans (b8.mono HB7.out.size)
  clear b8
  go_wp2_with fail
  go_ret
  exact ⟨rfl, HB8.out⟩
set_option maxRecDepth 100000 in
set_option maxHeartbeats 4000000 in
theorem row_5cnb (p : Option Addr) (nl c : Nat) (p2 : Option Addr) (nm c2 : Nat)  (l n : List Rq) (vv : Bool) (ee : Int) (hee : ee ≠ 0) (w : World) (hi1 : IS w (.slice p nl c) (.slice p2 nm c2) (true, 0)) (hi2 : IS w (.slice p2 nm c2) (.slice none 0 0) (true, 0)) (hi3 : IS w (.slice p nl c) (.slice none 0 0) (true, 0)) (hi4 : IS w (.slice p nl c) (.slice p nl c) (true, 0)) (hS : ∀ w1, Below w.heap.size w w1 → Calls Tryd.prog 7 #[] w1 fun e w' => e = .returned (.bool true) ∧ Below w1.heap.size w1 w') (hCo : ∀ w1, Below w.heap.size w w1 → Calls Tryd.prog 12 #[.slice p nl c] w1 fun e w' => ∃ u, e = .returned u ∧ OwnR w1 w1.heap.size w' u l ∧ Below w1.heap.size w1 w') (hFin : ∀ w0 w1 v', Below w.heap.size w w0 → Below w0.heap.size w0 w1 → OwnR w0 w0.heap.size w1 v' (l ++ n) → Calls Tryd.prog 10 #[v', .slice p nl c] w1 fun e w' => (∃ p n c, e = .returned (.tuple #[.bool vv, .slice p n c, .int .i64 ee])) ∧ Below w1.heap.size w1 w') (hn0 : n = []) :
    Calls Tryd.prog 6 #[.slice p nl c, .slice p2 nm c2, .slice none 0 0] w fun e w' => e = .returned (.bool true) ∧ Below w.heap.size w w' := by
  have HI1 : Hid (∀ w1, Below w.heap.size w w1 → Calls Tryd.prog 10 #[.slice p nl c, .slice p2 nm c2] w1 fun e w' => (∃ p n c, e = .returned (.tuple #[.bool true, .slice p n c, .int .i64 0])) ∧ Below w1.heap.size w1 w') := hi1
  have HI2 : Hid (∀ w1, Below w.heap.size w w1 → Calls Tryd.prog 10 #[.slice p2 nm c2, .slice none 0 0] w1 fun e w' => (∃ p n c, e = .returned (.tuple #[.bool true, .slice p n c, .int .i64 0])) ∧ Below w1.heap.size w1 w') := hi2
  have HI3 : Hid (∀ w1, Below w.heap.size w w1 → Calls Tryd.prog 10 #[.slice p nl c, .slice none 0 0] w1 fun e w' => (∃ p n c, e = .returned (.tuple #[.bool true, .slice p n c, .int .i64 0])) ∧ Below w1.heap.size w1 w') := hi3
  have HI4 : Hid (∀ w1, Below w.heap.size w w1 → Calls Tryd.prog 10 #[.slice p nl c, .slice p nl c] w1 fun e w' => (∃ p n c, e = .returned (.tuple #[.bool true, .slice p n c, .int .i64 0])) ∧ Below w1.heap.size w1 w') := hi4
  have HS : Hid (∀ w1, Below w.heap.size w w1 → Calls Tryd.prog 7 #[] w1 fun e w' => e = .returned (.bool true) ∧ Below w1.heap.size w1 w') := hS
  obtain ⟨i0, hi, hz0, hz1, hz2⟩ := info_parts info_req
  have HCo : Hid (∀ w1, Below w.heap.size w w1 → Calls Tryd.prog 12 #[.slice p nl c] w1 fun e w' => ∃ u, e = .returned u ∧ OwnR w1 w1.heap.size w' u l ∧ Below w1.heap.size w1 w') := hCo
  subst hn0
  rw [List.append_nil] at hFin
  have HFin : Hid (∀ w0 w1 v', Below w.heap.size w w0 → Below w0.heap.size w0 w1 → OwnR w0 w0.heap.size w1 v' l → Calls Tryd.prog 10 #[v', .slice p nl c] w1 fun e w' => (∃ p n c, e = .returned (.tuple #[.bool vv, .slice p n c, .int .i64 ee])) ∧ Below w1.heap.size w1 w') := hFin
  have heeb : (ee != 0) = true := by simpa using hee
  clear hee
  clear hCo hFin
  clear hi1 hi2 hi3 hi4 hS
  go_enter Tryd.func6, Tryd.ntmps6
  go_wp2_with fail
  refine Calls.mono (HI1.out w (Below.refl _ _)) ?_
  rintro e w1 ⟨⟨qq1, ii1, cc1, rfl⟩, b1⟩
  have HB1 : Hid (Below w.heap.size w w1) := b1
  clear b1
  go_wp2_with fail
  refine Calls.mono (HI2.out w1 HB1.out) ?_
  rintro e w2 ⟨⟨qq2, ii2, cc2, rfl⟩, b2⟩
  have HB2 : Hid (Below w.heap.size w w2) := HB1.out.trans (b2.mono HB1.out.size)
  clear b2
  go_wp2_with fail
  refine Calls.mono (HI3.out w2 HB2.out) ?_
  rintro e w3 ⟨⟨qq3, ii3, cc3, rfl⟩, b3⟩
  have HB3 : Hid (Below w.heap.size w w3) := HB2.out.trans (b3.mono HB2.out.size)
  clear b3
  go_wp2_with fail
  refine Calls.mono (HI4.out w3 HB3.out) ?_
  rintro e w4 ⟨⟨qq4, ii4, cc4, rfl⟩, b4⟩
  have HB4 : Hid (Below w.heap.size w w4) := HB3.out.trans (b4.mono HB3.out.size)
  clear b4
  go_wp2_with fail
  refine Calls.mono (HS.out w4 HB4.out) ?_
  rintro e w5 ⟨rfl, b5⟩
  have HB5 : Hid (Below w.heap.size w w5) := HB4.out.trans (b5.mono HB4.out.size)
  clear b5
  go_wp2_with fail
  refine Calls.mono (HCo.out w5 HB5.out) ?_
  rintro e w6 ⟨u, rfl, hown, b6⟩
  have HB65 : Hid (Below w5.heap.size w5 w6) := b6
  have HB6 : Hid (Below w.heap.size w w6) := HB5.out.trans (b6.mono HB5.out.size)
  have HFi : Hid (Calls Tryd.prog 10 #[u, .slice p nl c] w6 fun e w' => (∃ p n c, e = .returned (.tuple #[.bool vv, .slice p n c, .int .i64 ee])) ∧ Below w6.heap.size w6 w') := HFin.out w5 w6 u HB5.out HB65.out hown
  obtain ⟨Lp, hL, hSt, hO⟩ := hown
  have HO : Hid (w6.ownsRow w5.heap.size 24 3 u Lp.length (flatR Lp)) := hO
  clear hL hSt hO b6
  go_wp2_with (at_builtin; refine wpList_append_own_none rfl _ _ 30 rfl w5.heap.size 24 i0 3 Tryd.underlying30 hi _ _ _ rfl HO.out rfl ?_)
  refine Calls.mono HFi.out ?_
  rintro e w7 ⟨⟨qq7, ii7, cc7, rfl⟩, b7⟩
  have HB7 : Hid (Below w.heap.size w w7) := HB6.out.trans (b7.mono HB6.out.size)
  clear b7
  go_wp2_with fail
  go_ret
  exact ⟨rfl, HB7.out⟩
set_option maxRecDepth 100000 in
set_option maxHeartbeats 4000000 in
theorem row_5cng (p : Option Addr) (nl c : Nat) (p2 : Option Addr) (nm c2 : Nat)  (l n : List Rq) (w : World) (hi1 : IS w (.slice p nl c) (.slice p2 nm c2) (true, 0)) (hi2 : IS w (.slice p2 nm c2) (.slice none 0 0) (true, 0)) (hi3 : IS w (.slice p nl c) (.slice none 0 0) (true, 0)) (hi4 : IS w (.slice p nl c) (.slice p nl c) (true, 0)) (hS : ∀ w1, Below w.heap.size w w1 → Calls Tryd.prog 7 #[] w1 fun e w' => e = .returned (.bool true) ∧ Below w1.heap.size w1 w') (hCo : ∀ w1, Below w.heap.size w w1 → Calls Tryd.prog 12 #[.slice p nl c] w1 fun e w' => ∃ u, e = .returned u ∧ OwnR w1 w1.heap.size w' u l ∧ Below w1.heap.size w1 w') (hFin : ∀ w0 w1 v', Below w.heap.size w w0 → Below w0.heap.size w0 w1 → OwnR w0 w0.heap.size w1 v' (l ++ n) → Calls Tryd.prog 10 #[v', .slice p nl c] w1 fun e w' => (∃ p n c, e = .returned (.tuple #[.bool true, .slice p n c, .int .i64 0])) ∧ Below w1.heap.size w1 w') (hn0 : n = []) :
    Calls Tryd.prog 6 #[.slice p nl c, .slice p2 nm c2, .slice none 0 0] w fun e w' => e = .returned (.bool true) ∧ Below w.heap.size w w' := by
  have HI1 : Hid (∀ w1, Below w.heap.size w w1 → Calls Tryd.prog 10 #[.slice p nl c, .slice p2 nm c2] w1 fun e w' => (∃ p n c, e = .returned (.tuple #[.bool true, .slice p n c, .int .i64 0])) ∧ Below w1.heap.size w1 w') := hi1
  have HI2 : Hid (∀ w1, Below w.heap.size w w1 → Calls Tryd.prog 10 #[.slice p2 nm c2, .slice none 0 0] w1 fun e w' => (∃ p n c, e = .returned (.tuple #[.bool true, .slice p n c, .int .i64 0])) ∧ Below w1.heap.size w1 w') := hi2
  have HI3 : Hid (∀ w1, Below w.heap.size w w1 → Calls Tryd.prog 10 #[.slice p nl c, .slice none 0 0] w1 fun e w' => (∃ p n c, e = .returned (.tuple #[.bool true, .slice p n c, .int .i64 0])) ∧ Below w1.heap.size w1 w') := hi3
  have HI4 : Hid (∀ w1, Below w.heap.size w w1 → Calls Tryd.prog 10 #[.slice p nl c, .slice p nl c] w1 fun e w' => (∃ p n c, e = .returned (.tuple #[.bool true, .slice p n c, .int .i64 0])) ∧ Below w1.heap.size w1 w') := hi4
  have HS : Hid (∀ w1, Below w.heap.size w w1 → Calls Tryd.prog 7 #[] w1 fun e w' => e = .returned (.bool true) ∧ Below w1.heap.size w1 w') := hS
  obtain ⟨i0, hi, hz0, hz1, hz2⟩ := info_parts info_req
  have HCo : Hid (∀ w1, Below w.heap.size w w1 → Calls Tryd.prog 12 #[.slice p nl c] w1 fun e w' => ∃ u, e = .returned u ∧ OwnR w1 w1.heap.size w' u l ∧ Below w1.heap.size w1 w') := hCo
  subst hn0
  rw [List.append_nil] at hFin
  have HFin : Hid (∀ w0 w1 v', Below w.heap.size w w0 → Below w0.heap.size w0 w1 → OwnR w0 w0.heap.size w1 v' l → Calls Tryd.prog 10 #[v', .slice p nl c] w1 fun e w' => (∃ p n c, e = .returned (.tuple #[.bool true, .slice p n c, .int .i64 0])) ∧ Below w1.heap.size w1 w') := hFin
  clear hCo hFin
  clear hi1 hi2 hi3 hi4 hS
  go_enter Tryd.func6, Tryd.ntmps6
  go_wp2_with fail
  refine Calls.mono (HI1.out w (Below.refl _ _)) ?_
  rintro e w1 ⟨⟨qq1, ii1, cc1, rfl⟩, b1⟩
  have HB1 : Hid (Below w.heap.size w w1) := b1
  clear b1
  go_wp2_with fail
  refine Calls.mono (HI2.out w1 HB1.out) ?_
  rintro e w2 ⟨⟨qq2, ii2, cc2, rfl⟩, b2⟩
  have HB2 : Hid (Below w.heap.size w w2) := HB1.out.trans (b2.mono HB1.out.size)
  clear b2
  go_wp2_with fail
  refine Calls.mono (HI3.out w2 HB2.out) ?_
  rintro e w3 ⟨⟨qq3, ii3, cc3, rfl⟩, b3⟩
  have HB3 : Hid (Below w.heap.size w w3) := HB2.out.trans (b3.mono HB2.out.size)
  clear b3
  go_wp2_with fail
  refine Calls.mono (HI4.out w3 HB3.out) ?_
  rintro e w4 ⟨⟨qq4, ii4, cc4, rfl⟩, b4⟩
  have HB4 : Hid (Below w.heap.size w w4) := HB3.out.trans (b4.mono HB3.out.size)
  clear b4
  go_wp2_with fail
  refine Calls.mono (HS.out w4 HB4.out) ?_
  rintro e w5 ⟨rfl, b5⟩
  have HB5 : Hid (Below w.heap.size w w5) := HB4.out.trans (b5.mono HB4.out.size)
  clear b5
  go_wp2_with fail
  refine Calls.mono (HCo.out w5 HB5.out) ?_
  rintro e w6 ⟨u, rfl, hown, b6⟩
  have HB65 : Hid (Below w5.heap.size w5 w6) := b6
  have HB6 : Hid (Below w.heap.size w w6) := HB5.out.trans (b6.mono HB5.out.size)
  have HFi : Hid (Calls Tryd.prog 10 #[u, .slice p nl c] w6 fun e w' => (∃ p n c, e = .returned (.tuple #[.bool true, .slice p n c, .int .i64 0])) ∧ Below w6.heap.size w6 w') := HFin.out w5 w6 u HB5.out HB65.out hown
  obtain ⟨Lp, hL, hSt, hO⟩ := hown
  have HO : Hid (w6.ownsRow w5.heap.size 24 3 u Lp.length (flatR Lp)) := hO
  clear hL hSt hO b6
  go_wp2_with (at_builtin; refine wpList_append_own_none rfl _ _ 30 rfl w5.heap.size 24 i0 3 Tryd.underlying30 hi _ _ _ rfl HO.out rfl ?_)
  refine Calls.mono HFi.out ?_
  rintro e w7 ⟨⟨qq7, ii7, cc7, rfl⟩, b7⟩
  have HB7 : Hid (Below w.heap.size w w7) := HB6.out.trans (b7.mono HB6.out.size)
  clear b7
  go_wp2_with fail
  go_ret
  exact ⟨rfl, HB7.out⟩
set_option maxRecDepth 100000 in
set_option maxHeartbeats 4000000 in
theorem row_5csb (p : Option Addr) (nl c : Nat) (p2 : Option Addr) (nm c2 : Nat)  (l n : List Rq) (vv : Bool) (ee : Int) (hee : ee ≠ 0) (ad : Addr) (c3 : Nat) (Np : List (Rq × Value)) (w : World) (hi1 : IS w (.slice p nl c) (.slice p2 nm c2) (true, 0)) (hi2 : IS w (.slice p2 nm c2) (.slice (some ad) Np.length c3) (true, 0)) (hi3 : IS w (.slice p nl c) (.slice (some ad) Np.length c3) (true, 0)) (hi4 : IS w (.slice p nl c) (.slice p nl c) (true, 0)) (hS : ∀ w1, Below w.heap.size w w1 → Calls Tryd.prog 7 #[] w1 fun e w' => e = .returned (.bool true) ∧ Below w1.heap.size w1 w') (hCo : ∀ w1, Below w.heap.size w w1 → Calls Tryd.prog 12 #[.slice p nl c] w1 fun e w' => ∃ u, e = .returned u ∧ OwnR w1 w1.heap.size w' u l ∧ Below w1.heap.size w1 w') (hFin : ∀ w0 w1 v', Below w.heap.size w w0 → Below w0.heap.size w0 w1 → OwnR w0 w0.heap.size w1 v' (l ++ n) → Calls Tryd.prog 10 #[v', .slice p nl c] w1 fun e w' => (∃ p n c, e = .returned (.tuple #[.bool vv, .slice p n c, .int .i64 ee])) ∧ Below w1.heap.size w1 w') (hl8 : l.length ≤ 8) (hn48 : Np.length * 48 ≤ 140737488351232) (hNm : Np.map (·.1) = n) (hNs : ∀ p ∈ Np, Strs w p.2 p.1.2.2) (hNl : (flatR Np).length = Np.length * 3) (hN1 : ∀ u ∈ flatR Np, u.oneCell' = true) (hNc : ∀ w1, Below w.heap.size w w1 → ∀ (j : Nat) (u : Value), (flatR Np)[j]? = some u → w1.cell? (ad.add j) = some u) :
    Calls Tryd.prog 6 #[.slice p nl c, .slice p2 nm c2, .slice (some ad) Np.length c3] w fun e w' => e = .returned (.bool true) ∧ Below w.heap.size w w' := by
  have HI1 : Hid (∀ w1, Below w.heap.size w w1 → Calls Tryd.prog 10 #[.slice p nl c, .slice p2 nm c2] w1 fun e w' => (∃ p n c, e = .returned (.tuple #[.bool true, .slice p n c, .int .i64 0])) ∧ Below w1.heap.size w1 w') := hi1
  have HI2 : Hid (∀ w1, Below w.heap.size w w1 → Calls Tryd.prog 10 #[.slice p2 nm c2, .slice (some ad) Np.length c3] w1 fun e w' => (∃ p n c, e = .returned (.tuple #[.bool true, .slice p n c, .int .i64 0])) ∧ Below w1.heap.size w1 w') := hi2
  have HI3 : Hid (∀ w1, Below w.heap.size w w1 → Calls Tryd.prog 10 #[.slice p nl c, .slice (some ad) Np.length c3] w1 fun e w' => (∃ p n c, e = .returned (.tuple #[.bool true, .slice p n c, .int .i64 0])) ∧ Below w1.heap.size w1 w') := hi3
  have HI4 : Hid (∀ w1, Below w.heap.size w w1 → Calls Tryd.prog 10 #[.slice p nl c, .slice p nl c] w1 fun e w' => (∃ p n c, e = .returned (.tuple #[.bool true, .slice p n c, .int .i64 0])) ∧ Below w1.heap.size w1 w') := hi4
  have HS : Hid (∀ w1, Below w.heap.size w w1 → Calls Tryd.prog 7 #[] w1 fun e w' => e = .returned (.bool true) ∧ Below w1.heap.size w1 w') := hS
  obtain ⟨i0, hi, hz0, hz1, hz2⟩ := info_parts info_req
  have HCo : Hid (∀ w1, Below w.heap.size w w1 → Calls Tryd.prog 12 #[.slice p nl c] w1 fun e w' => ∃ u, e = .returned u ∧ OwnR w1 w1.heap.size w' u l ∧ Below w1.heap.size w1 w') := hCo
  have HFin : Hid (∀ w0 w1 v', Below w.heap.size w w0 → Below w0.heap.size w0 w1 → OwnR w0 w0.heap.size w1 v' (l ++ n) → Calls Tryd.prog 10 #[v', .slice p nl c] w1 fun e w' => (∃ p n c, e = .returned (.tuple #[.bool vv, .slice p n c, .int .i64 ee])) ∧ Below w1.heap.size w1 w') := hFin
  have HNm : Hid (Np.map (·.1) = n) := hNm
  have HNs : Hid (∀ p ∈ Np, Strs w p.2 p.1.2.2) := hNs
  have HNl : Hid ((flatR Np).length = Np.length * 3) := hNl
  have HN1 : Hid (∀ u ∈ flatR Np, u.oneCell' = true) := hN1
  have HNc : Hid (∀ w1, Below w.heap.size w w1 → ∀ (j : Nat) (u : Value), (flatR Np)[j]? = some u → w1.cell? (ad.add j) = some u) := hNc
  clear hNm hNs hNl hN1 hNc
  have heeb : (ee != 0) = true := by simpa using hee
  clear hee
  clear hCo hFin
  clear hi1 hi2 hi3 hi4 hS
  go_enter Tryd.func6, Tryd.ntmps6
  go_wp2_with fail
  refine Calls.mono (HI1.out w (Below.refl _ _)) ?_
  rintro e w1 ⟨⟨qq1, ii1, cc1, rfl⟩, b1⟩
  have HB1 : Hid (Below w.heap.size w w1) := b1
  clear b1
  go_wp2_with fail
  refine Calls.mono (HI2.out w1 HB1.out) ?_
  rintro e w2 ⟨⟨qq2, ii2, cc2, rfl⟩, b2⟩
  have HB2 : Hid (Below w.heap.size w w2) := HB1.out.trans (b2.mono HB1.out.size)
  clear b2
  go_wp2_with fail
  refine Calls.mono (HI3.out w2 HB2.out) ?_
  rintro e w3 ⟨⟨qq3, ii3, cc3, rfl⟩, b3⟩
  have HB3 : Hid (Below w.heap.size w w3) := HB2.out.trans (b3.mono HB2.out.size)
  clear b3
  go_wp2_with fail
  refine Calls.mono (HI4.out w3 HB3.out) ?_
  rintro e w4 ⟨⟨qq4, ii4, cc4, rfl⟩, b4⟩
  have HB4 : Hid (Below w.heap.size w w4) := HB3.out.trans (b4.mono HB3.out.size)
  clear b4
  go_wp2_with fail
  refine Calls.mono (HS.out w4 HB4.out) ?_
  rintro e w5 ⟨rfl, b5⟩
  have HB5 : Hid (Below w.heap.size w w5) := HB4.out.trans (b5.mono HB4.out.size)
  clear b5
  go_wp2_with fail
  refine Calls.mono (HCo.out w5 HB5.out) ?_
  rintro e w6 ⟨u, rfl, hown, b6⟩
  have HB65 : Hid (Below w5.heap.size w5 w6) := b6
  have HB6 : Hid (Below w.heap.size w w6) := HB5.out.trans (b6.mono HB5.out.size)
  obtain ⟨Lp, hL, hSt, hO⟩ := hown
  have hLl : Lp.length = l.length := by rw [← hL, List.length_map]
  have hLe : Lp.length ≤ 8 := by omega
  have HO : Hid (w6.ownsRow w5.heap.size 24 3 u Lp.length (flatR Lp)) := hO
  have HL : Hid (Lp.map (·.1) = l) := hL
  have HSt : Hid (∀ p ∈ Lp, Strs w5 p.2 p.1.2.2) := hSt
  have HN6 : Hid (∀ (j : Nat) (u : Value), (flatR Np)[j]? = some u → w6.cell? (ad.add j) = some u) := HNc.out w6 HB6.out
  have h56 := HB65.out.size
  clear hL hSt hO b6 hLl
  go_wp2_with (at_builtin; refine wpList_append_own _ rfl _ _ 30 rfl w5.heap.size 24 i0 (.agg #[.string ⟨#[]⟩, .int .i64 0, .slice none 0 0]) 3 48 Tryd.underlying30 hi hz0 hz1 hz2 rfl (by decide) _ _ _ rfl HO.out ad Np.length c3 (flatR Np) rfl HNl.out HN6.out HN1.out (by unfold maxLen; omega) (by omega) h56 ?_)
  intro v' w7 hown' hgrow _
  have HB75 : Hid (Below w5.heap.size w5 w7) := HB65.out.grown hgrow h56 (fun b hb => (World.ownsRow.lt HO.out b hb).1)
  have HB7 : Hid (Below w.heap.size w w7) := HB5.out.trans (HB75.out.mono HB5.out.size)
  have hR : OwnR w5 w5.heap.size w7 v' (l ++ n) := by
    refine ⟨Lp ++ Np, by rw [List.map_append, HL.out, HNm.out], fun p hp => ?_, by rw [List.length_append, flatR_append]; exact hown'⟩
    rcases List.mem_append.1 hp with hp | hp
    · exact HSt.out p hp
    · exact (HNs.out p hp).below HB5.out
  have HFi : Hid (Calls Tryd.prog 10 #[v', .slice p nl c] w7 fun e w' => (∃ p n c, e = .returned (.tuple #[.bool vv, .slice p n c, .int .i64 ee])) ∧ Below w7.heap.size w7 w') := HFin.out w5 w7 v' HB5.out HB75.out hR
  clear hR hown' hgrow h56
  go_wp2_with fail
  refine Calls.mono HFi.out ?_
  rintro e w8 ⟨⟨qq8, ii8, cc8, rfl⟩, b8⟩
  have HB8 : Hid (Below w.heap.size w w8) := HB7.out.trans (b8.mono HB7.out.size)
  clear b8
  go_wp2_with fail
  go_ret
  exact ⟨rfl, HB8.out⟩
set_option maxRecDepth 100000 in
set_option maxHeartbeats 4000000 in
theorem row_5csg (p : Option Addr) (nl c : Nat) (p2 : Option Addr) (nm c2 : Nat)  (l n : List Rq) (ad : Addr) (c3 : Nat) (Np : List (Rq × Value)) (w : World) (hi1 : IS w (.slice p nl c) (.slice p2 nm c2) (true, 0)) (hi2 : IS w (.slice p2 nm c2) (.slice (some ad) Np.length c3) (true, 0)) (hi3 : IS w (.slice p nl c) (.slice (some ad) Np.length c3) (true, 0)) (hi4 : IS w (.slice p nl c) (.slice p nl c) (true, 0)) (hS : ∀ w1, Below w.heap.size w w1 → Calls Tryd.prog 7 #[] w1 fun e w' => e = .returned (.bool true) ∧ Below w1.heap.size w1 w') (hCo : ∀ w1, Below w.heap.size w w1 → Calls Tryd.prog 12 #[.slice p nl c] w1 fun e w' => ∃ u, e = .returned u ∧ OwnR w1 w1.heap.size w' u l ∧ Below w1.heap.size w1 w') (hFin : ∀ w0 w1 v', Below w.heap.size w w0 → Below w0.heap.size w0 w1 → OwnR w0 w0.heap.size w1 v' (l ++ n) → Calls Tryd.prog 10 #[v', .slice p nl c] w1 fun e w' => (∃ p n c, e = .returned (.tuple #[.bool true, .slice p n c, .int .i64 0])) ∧ Below w1.heap.size w1 w') (hl8 : l.length ≤ 8) (hn48 : Np.length * 48 ≤ 140737488351232) (hNm : Np.map (·.1) = n) (hNs : ∀ p ∈ Np, Strs w p.2 p.1.2.2) (hNl : (flatR Np).length = Np.length * 3) (hN1 : ∀ u ∈ flatR Np, u.oneCell' = true) (hNc : ∀ w1, Below w.heap.size w w1 → ∀ (j : Nat) (u : Value), (flatR Np)[j]? = some u → w1.cell? (ad.add j) = some u) :
    Calls Tryd.prog 6 #[.slice p nl c, .slice p2 nm c2, .slice (some ad) Np.length c3] w fun e w' => e = .returned (.bool true) ∧ Below w.heap.size w w' := by
  have HI1 : Hid (∀ w1, Below w.heap.size w w1 → Calls Tryd.prog 10 #[.slice p nl c, .slice p2 nm c2] w1 fun e w' => (∃ p n c, e = .returned (.tuple #[.bool true, .slice p n c, .int .i64 0])) ∧ Below w1.heap.size w1 w') := hi1
  have HI2 : Hid (∀ w1, Below w.heap.size w w1 → Calls Tryd.prog 10 #[.slice p2 nm c2, .slice (some ad) Np.length c3] w1 fun e w' => (∃ p n c, e = .returned (.tuple #[.bool true, .slice p n c, .int .i64 0])) ∧ Below w1.heap.size w1 w') := hi2
  have HI3 : Hid (∀ w1, Below w.heap.size w w1 → Calls Tryd.prog 10 #[.slice p nl c, .slice (some ad) Np.length c3] w1 fun e w' => (∃ p n c, e = .returned (.tuple #[.bool true, .slice p n c, .int .i64 0])) ∧ Below w1.heap.size w1 w') := hi3
  have HI4 : Hid (∀ w1, Below w.heap.size w w1 → Calls Tryd.prog 10 #[.slice p nl c, .slice p nl c] w1 fun e w' => (∃ p n c, e = .returned (.tuple #[.bool true, .slice p n c, .int .i64 0])) ∧ Below w1.heap.size w1 w') := hi4
  have HS : Hid (∀ w1, Below w.heap.size w w1 → Calls Tryd.prog 7 #[] w1 fun e w' => e = .returned (.bool true) ∧ Below w1.heap.size w1 w') := hS
  obtain ⟨i0, hi, hz0, hz1, hz2⟩ := info_parts info_req
  have HCo : Hid (∀ w1, Below w.heap.size w w1 → Calls Tryd.prog 12 #[.slice p nl c] w1 fun e w' => ∃ u, e = .returned u ∧ OwnR w1 w1.heap.size w' u l ∧ Below w1.heap.size w1 w') := hCo
  have HFin : Hid (∀ w0 w1 v', Below w.heap.size w w0 → Below w0.heap.size w0 w1 → OwnR w0 w0.heap.size w1 v' (l ++ n) → Calls Tryd.prog 10 #[v', .slice p nl c] w1 fun e w' => (∃ p n c, e = .returned (.tuple #[.bool true, .slice p n c, .int .i64 0])) ∧ Below w1.heap.size w1 w') := hFin
  have HNm : Hid (Np.map (·.1) = n) := hNm
  have HNs : Hid (∀ p ∈ Np, Strs w p.2 p.1.2.2) := hNs
  have HNl : Hid ((flatR Np).length = Np.length * 3) := hNl
  have HN1 : Hid (∀ u ∈ flatR Np, u.oneCell' = true) := hN1
  have HNc : Hid (∀ w1, Below w.heap.size w w1 → ∀ (j : Nat) (u : Value), (flatR Np)[j]? = some u → w1.cell? (ad.add j) = some u) := hNc
  clear hNm hNs hNl hN1 hNc
  clear hCo hFin
  clear hi1 hi2 hi3 hi4 hS
  go_enter Tryd.func6, Tryd.ntmps6
  go_wp2_with fail
  refine Calls.mono (HI1.out w (Below.refl _ _)) ?_
  rintro e w1 ⟨⟨qq1, ii1, cc1, rfl⟩, b1⟩
  have HB1 : Hid (Below w.heap.size w w1) := b1
  clear b1
  go_wp2_with fail
  refine Calls.mono (HI2.out w1 HB1.out) ?_
  rintro e w2 ⟨⟨qq2, ii2, cc2, rfl⟩, b2⟩
  have HB2 : Hid (Below w.heap.size w w2) := HB1.out.trans (b2.mono HB1.out.size)
  clear b2
  go_wp2_with fail
  refine Calls.mono (HI3.out w2 HB2.out) ?_
  rintro e w3 ⟨⟨qq3, ii3, cc3, rfl⟩, b3⟩
  have HB3 : Hid (Below w.heap.size w w3) := HB2.out.trans (b3.mono HB2.out.size)
  clear b3
  go_wp2_with fail
  refine Calls.mono (HI4.out w3 HB3.out) ?_
  rintro e w4 ⟨⟨qq4, ii4, cc4, rfl⟩, b4⟩
  have HB4 : Hid (Below w.heap.size w w4) := HB3.out.trans (b4.mono HB3.out.size)
  clear b4
  go_wp2_with fail
  refine Calls.mono (HS.out w4 HB4.out) ?_
  rintro e w5 ⟨rfl, b5⟩
  have HB5 : Hid (Below w.heap.size w w5) := HB4.out.trans (b5.mono HB4.out.size)
  clear b5
  go_wp2_with fail
  refine Calls.mono (HCo.out w5 HB5.out) ?_
  rintro e w6 ⟨u, rfl, hown, b6⟩
  have HB65 : Hid (Below w5.heap.size w5 w6) := b6
  have HB6 : Hid (Below w.heap.size w w6) := HB5.out.trans (b6.mono HB5.out.size)
  obtain ⟨Lp, hL, hSt, hO⟩ := hown
  have hLl : Lp.length = l.length := by rw [← hL, List.length_map]
  have hLe : Lp.length ≤ 8 := by omega
  have HO : Hid (w6.ownsRow w5.heap.size 24 3 u Lp.length (flatR Lp)) := hO
  have HL : Hid (Lp.map (·.1) = l) := hL
  have HSt : Hid (∀ p ∈ Lp, Strs w5 p.2 p.1.2.2) := hSt
  have HN6 : Hid (∀ (j : Nat) (u : Value), (flatR Np)[j]? = some u → w6.cell? (ad.add j) = some u) := HNc.out w6 HB6.out
  have h56 := HB65.out.size
  clear hL hSt hO b6 hLl
  go_wp2_with (at_builtin; refine wpList_append_own _ rfl _ _ 30 rfl w5.heap.size 24 i0 (.agg #[.string ⟨#[]⟩, .int .i64 0, .slice none 0 0]) 3 48 Tryd.underlying30 hi hz0 hz1 hz2 rfl (by decide) _ _ _ rfl HO.out ad Np.length c3 (flatR Np) rfl HNl.out HN6.out HN1.out (by unfold maxLen; omega) (by omega) h56 ?_)
  intro v' w7 hown' hgrow _
  have HB75 : Hid (Below w5.heap.size w5 w7) := HB65.out.grown hgrow h56 (fun b hb => (World.ownsRow.lt HO.out b hb).1)
  have HB7 : Hid (Below w.heap.size w w7) := HB5.out.trans (HB75.out.mono HB5.out.size)
  have hR : OwnR w5 w5.heap.size w7 v' (l ++ n) := by
    refine ⟨Lp ++ Np, by rw [List.map_append, HL.out, HNm.out], fun p hp => ?_, by rw [List.length_append, flatR_append]; exact hown'⟩
    rcases List.mem_append.1 hp with hp | hp
    · exact HSt.out p hp
    · exact (HNs.out p hp).below HB5.out
  have HFi : Hid (Calls Tryd.prog 10 #[v', .slice p nl c] w7 fun e w' => (∃ p n c, e = .returned (.tuple #[.bool true, .slice p n c, .int .i64 0])) ∧ Below w7.heap.size w7 w') := HFin.out w5 w7 v' HB5.out HB75.out hR
  clear hR hown' hgrow h56
  go_wp2_with fail
  refine Calls.mono HFi.out ?_
  rintro e w8 ⟨⟨qq8, ii8, cc8, rfl⟩, b8⟩
  have HB8 : Hid (Below w.heap.size w w8) := HB7.out.trans (b8.mono HB7.out.size)
  clear b8
  go_wp2_with fail
  go_ret
  exact ⟨rfl, HB8.out⟩
end Go.Proofs.YtglmffplnglkdabDoor
