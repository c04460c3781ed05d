/- The walk of the law QueryAnd over this translation. -/
import Derived.Test.YtglmffplnglkdaaDoorQBoth
import Derived.Test.YtglmffplnglkdaaDoorQStrange
namespace Go.Proofs.YtglmffplnglkdaaDoor
open Go.RowKit
set_option linter.unusedVariables false
set_option linter.unusedSimpArgs false
theorem flatR_append (L N : List (Rq × Value)) : flatR (L ++ N) = flatR L ++ flatR N := by simp [flatR]
set_option maxRecDepth 100000 in
set_option maxHeartbeats 4000000 in
theorem and_as (p : Option Addr) (nl c : Nat) (p3 : Option Addr) (n3 c3 : Nat) (l m : List Rq) (N : Nat) (hN : (l ++ m).length = N) (e f g g2 : Int) (x y z2 : Bool) (he : e ≠ 0) (hg : g ≠ 0) (ad : Addr) (c2 : Nat) (Mp : List (Rq × Value)) (w : World) (hCo : Calls Tryd.prog 21 #[.slice p nl c] w fun e w' => ∃ u, e = .returned u ∧ OwnR w w.heap.size w' u l ∧ Below w.heap.size w w') (hM1 : ∀ w1, Below w.heap.size w w1 → Calls Tryd.prog 8 #[.slice p nl c, .slice p3 n3 c3] w1 fun en w' => en = .returned (.tuple #[.bool x, .int .i64 e]) ∧ Below w1.heap.size w1 w') (hM2 : ∀ w1, Below w.heap.size w w1 → Calls Tryd.prog 8 #[.slice (some ad) Mp.length c2, .slice p3 n3 c3] w1 fun en w' => en = .returned (.tuple #[.bool y, .int .i64 f]) ∧ Below w1.heap.size w1 w') (hBo : ∀ w2 bv, OwnR w w.heap.size w2 bv (l ++ m) → Below w.heap.size w w2 → (∃ q cc, bv = .slice q (l ++ m).length cc) ∧ BM w2 bv (.slice p3 n3 c3) false g ∧ BR w w2 bv (.slice p3 n3 c3) z2 g2) (hS : ∀ w1, Below w.heap.size w w1 → Calls Tryd.prog 20 #[] w1 fun e w' => e = .returned (.bool true) ∧ Below w1.heap.size w1 w') (hl1 : l.length ≤ 1048576) (hm1 : Mp.length ≤ 1048576) (hNm : Mp.map (·.1) = m) (hNs : ∀ p ∈ Mp, Strs w p.2 p.1.2.2) (hNl : (flatR Mp).length = Mp.length * 3) (hN1 : ∀ u ∈ flatR Mp, u.oneCell' = true) (hNc : ∀ w1, Below w.heap.size w w1 → ∀ (j : Nat) (u : Value), (flatR Mp)[j]? = some u → w1.cell? (ad.add j) = some u) :
    Calls Tryd.prog 7 #[.slice p nl c, .slice (some ad) Mp.length c2, .slice p3 n3 c3] w fun e w' => e = .returned (.bool true) ∧ Below w.heap.size w w' := by
  obtain ⟨i0, hi, hz0, hz1, hz2⟩ := info_parts info_req
  rw [hN] at hBo
  have HCo : Hid (Calls Tryd.prog 21 #[.slice p nl c] w fun e w' => ∃ u, e = .returned u ∧ OwnR w w.heap.size w' u l ∧ Below w.heap.size w w') := hCo
  have HM1 : Hid (∀ w1, Below w.heap.size w w1 → Calls Tryd.prog 8 #[.slice p nl c, .slice p3 n3 c3] w1 fun en w' => en = .returned (.tuple #[.bool x, .int .i64 e]) ∧ Below w1.heap.size w1 w') := hM1
  have HM2 : Hid (∀ w1, Below w.heap.size w w1 → Calls Tryd.prog 8 #[.slice (some ad) Mp.length c2, .slice p3 n3 c3] w1 fun en w' => en = .returned (.tuple #[.bool y, .int .i64 f]) ∧ Below w1.heap.size w1 w') := hM2
  have HBo : Hid (∀ w2 bv, OwnR w w.heap.size w2 bv (l ++ m) → Below w.heap.size w w2 → (∃ q cc, bv = .slice q N cc) ∧ BM w2 bv (.slice p3 n3 c3) false g ∧ BR w w2 bv (.slice p3 n3 c3) z2 g2) := hBo
  have HS : Hid (∀ w1, Below w.heap.size w w1 → Calls Tryd.prog 20 #[] w1 fun e w' => e = .returned (.bool true) ∧ Below w1.heap.size w1 w') := hS
  clear hCo hM1 hM2 hBo hS hN
  have heb : (e != 0) = true := by simpa using he
  clear he
  have hgb : (g != 0) = true := by simpa using hg
  clear hg
  have HNm : Hid (Mp.map (·.1) = m) := hNm
  have HNs : Hid (∀ p ∈ Mp, Strs w p.2 p.1.2.2) := hNs
  have HNl : Hid ((flatR Mp).length = Mp.length * 3) := hNl
  have HN1 : Hid (∀ u ∈ flatR Mp, u.oneCell' = true) := hN1
  have HNc : Hid (∀ w1, Below w.heap.size w w1 → ∀ (j : Nat) (u : Value), (flatR Mp)[j]? = some u → w1.cell? (ad.add j) = some u) := hNc
  clear hNm hNs hNl hN1 hNc
  go_enter Tryd.func7, Tryd.ntmps7
  go_wp2_with fail
  refine Calls.mono HCo.out ?_
  rintro e w1 ⟨u, rfl, hown, b1⟩
  have HB1 : Hid (Below w.heap.size w w1) := b1
  obtain ⟨Lp, hL, hSt, hO⟩ := hown
  have hLl : Lp.length = l.length := by rw [← hL, List.length_map]
  have hLe : Lp.length ≤ 1048576 := by omega
  have HO : Hid (w1.ownsRow w.heap.size 37 3 u Lp.length (flatR Lp)) := hO
  have HL : Hid (Lp.map (·.1) = l) := hL
  have HSt : Hid (∀ p ∈ Lp, Strs w p.2 p.1.2.2) := hSt
  have HN6 : Hid (∀ (j : Nat) (u : Value), (flatR Mp)[j]? = some u → w1.cell? (ad.add j) = some u) := HNc.out w1 HB1.out
  have h56 := HB1.out.size
  clear hL hSt hO b1 hLl
  go_wp2_with (at_builtin; refine wpList_append_own _ rfl _ _ 22 rfl w.heap.size 37 i0 (.agg #[.string ⟨#[]⟩, .int .i64 0, .slice none 0 0]) 3 48 Tryd.underlying22 hi hz0 hz1 hz2 rfl (by decide) _ _ _ rfl HO.out ad Mp.length c2 (flatR Mp) rfl HNl.out HN6.out HN1.out (by unfold maxLen; omega) (by omega) h56 ?_)
  intro v' w2 hown' hgrow _
  have HB2 : Hid (Below w.heap.size w w2) := HB1.out.grown hgrow h56 (fun b hb => (World.ownsRow.lt HO.out b hb).1)
  have hR : OwnR w w.heap.size w2 v' (l ++ m) := by
    refine ⟨Lp ++ Mp, by rw [List.map_append, HL.out, HNm.out], fun p hp => ?_, by rw [List.length_append, flatR_append]; exact hown'⟩
    rcases List.mem_append.1 hp with hp | hp
    · exact HSt.out p hp
    · exact HNs.out p hp
  obtain ⟨⟨q, cc, rfl⟩, hbm, hbr⟩ := HBo.out w2 v' hR HB2.out
  have HBM : Hid (BM w2 (.slice q N cc) (.slice p3 n3 c3) false g) := hbm
  have HBR : Hid (BR w w2 (.slice q N cc) (.slice p3 n3 c3) z2 g2) := hbr
  clear hR hown' hgrow h56 hbm hbr HO HL HSt HN6 HNm HNs HNl HN1 HNc hi hz0 hz1 hz2 hLe hl1 hm1
  go_wp2_with fail
  refine Calls.mono (HM1.out _ HB2.out) ?_
  rintro e w3 ⟨rfl, b3⟩
  have HB3 : Hid (Below w.heap.size w w3) := HB2.out.trans (b3.mono HB2.out.size)
  have HC3 : Hid (Below w2.heap.size w2 w3) := b3
  clear b3
  go_wp2_with fail
  refine Calls.mono (HM2.out _ HB3.out) ?_
  rintro e w4 ⟨rfl, b4⟩
  have HB4 : Hid (Below w.heap.size w w4) := HB3.out.trans (b4.mono HB3.out.size)
  have HC4 : Hid (Below w2.heap.size w2 w4) := HC3.out.trans (b4.mono HC3.out.size)
  clear b4
  go_wp2_with fail
  refine Calls.mono (HBM.out _ HC4.out) ?_
  rintro e w5 ⟨rfl, b5⟩
  have HB5 : Hid (Below w.heap.size w w5) := HB4.out.trans (b5.mono HB4.out.size)
  have HC5 : Hid (Below w2.heap.size w2 w5) := HC4.out.trans (b5.mono HC4.out.size)
  clear b5
  go_wp2_with fail
  refine Calls.mono (HS.out _ HB5.out) ?_
  rintro e w6 ⟨rfl, b6⟩
  have HB6 : Hid (Below w.heap.size w w6) := HB5.out.trans (b6.mono HB5.out.size)
  have HC6 : Hid (Below w2.heap.size w2 w6) := HC5.out.trans (b6.mono HC5.out.size)
  clear b6
  go_wp2_with fail
  go_ret
  exact ⟨rfl, HB6.out⟩
set_option maxRecDepth 100000 in
set_option maxHeartbeats 4000000 in
theorem and_bs (p : Option Addr) (nl c : Nat) (p3 : Option Addr) (n3 c3 : Nat) (l m : List Rq) (N : Nat) (hN : (l ++ m).length = N) (f g g2 : Int) (x y z2 : Bool) (hf : f ≠ 0) (hg : g ≠ 0) (ad : Addr) (c2 : Nat) (Mp : List (Rq × Value)) (w : World) (hCo : Calls Tryd.prog 21 #[.slice p nl c] w fun e w' => ∃ u, e = .returned u ∧ OwnR w w.heap.size w' u l ∧ Below w.heap.size w w') (hM1 : ∀ w1, Below w.heap.size w w1 → Calls Tryd.prog 8 #[.slice p nl c, .slice p3 n3 c3] w1 fun en w' => en = .returned (.tuple #[.bool x, .int .i64 0]) ∧ Below w1.heap.size w1 w') (hM2 : ∀ w1, Below w.heap.size w w1 → Calls Tryd.prog 8 #[.slice (some ad) Mp.length c2, .slice p3 n3 c3] w1 fun en w' => en = .returned (.tuple #[.bool y, .int .i64 f]) ∧ Below w1.heap.size w1 w') (hBo : ∀ w2 bv, OwnR w w.heap.size w2 bv (l ++ m) → Below w.heap.size w w2 → (∃ q cc, bv = .slice q (l ++ m).length cc) ∧ BM w2 bv (.slice p3 n3 c3) false g ∧ BR w w2 bv (.slice p3 n3 c3) z2 g2) (hS : ∀ w1, Below w.heap.size w w1 → Calls Tryd.prog 20 #[] w1 fun e w' => e = .returned (.bool true) ∧ Below w1.heap.size w1 w') (hl1 : l.length ≤ 1048576) (hm1 : Mp.length ≤ 1048576) (hNm : Mp.map (·.1) = m) (hNs : ∀ p ∈ Mp, Strs w p.2 p.1.2.2) (hNl : (flatR Mp).length = Mp.length * 3) (hN1 : ∀ u ∈ flatR Mp, u.oneCell' = true) (hNc : ∀ w1, Below w.heap.size w w1 → ∀ (j : Nat) (u : Value), (flatR Mp)[j]? = some u → w1.cell? (ad.add j) = some u) :
    Calls Tryd.prog 7 #[.slice p nl c, .slice (some ad) Mp.length c2, .slice p3 n3 c3] w fun e w' => e = .returned (.bool true) ∧ Below w.heap.size w w' := by
  obtain ⟨i0, hi, hz0, hz1, hz2⟩ := info_parts info_req
  rw [hN] at hBo
  have HCo : Hid (Calls Tryd.prog 21 #[.slice p nl c] w fun e w' => ∃ u, e = .returned u ∧ OwnR w w.heap.size w' u l ∧ Below w.heap.size w w') := hCo
  have HM1 : Hid (∀ w1, Below w.heap.size w w1 → Calls Tryd.prog 8 #[.slice p nl c, .slice p3 n3 c3] w1 fun en w' => en = .returned (.tuple #[.bool x, .int .i64 0]) ∧ Below w1.heap.size w1 w') := hM1
  have HM2 : Hid (∀ w1, Below w.heap.size w w1 → Calls Tryd.prog 8 #[.slice (some ad) Mp.length c2, .slice p3 n3 c3] w1 fun en w' => en = .returned (.tuple #[.bool y, .int .i64 f]) ∧ Below w1.heap.size w1 w') := hM2
  have HBo : Hid (∀ w2 bv, OwnR w w.heap.size w2 bv (l ++ m) → Below w.heap.size w w2 → (∃ q cc, bv = .slice q N cc) ∧ BM w2 bv (.slice p3 n3 c3) false g ∧ BR w w2 bv (.slice p3 n3 c3) z2 g2) := hBo
  have HS : Hid (∀ w1, Below w.heap.size w w1 → Calls Tryd.prog 20 #[] w1 fun e w' => e = .returned (.bool true) ∧ Below w1.heap.size w1 w') := hS
  clear hCo hM1 hM2 hBo hS hN
  have hfb : (f != 0) = true := by simpa using hf
  clear hf
  have hgb : (g != 0) = true := by simpa using hg
  clear hg
  have HNm : Hid (Mp.map (·.1) = m) := hNm
  have HNs : Hid (∀ p ∈ Mp, Strs w p.2 p.1.2.2) := hNs
  have HNl : Hid ((flatR Mp).length = Mp.length * 3) := hNl
  have HN1 : Hid (∀ u ∈ flatR Mp, u.oneCell' = true) := hN1
  have HNc : Hid (∀ w1, Below w.heap.size w w1 → ∀ (j : Nat) (u : Value), (flatR Mp)[j]? = some u → w1.cell? (ad.add j) = some u) := hNc
  clear hNm hNs hNl hN1 hNc
  go_enter Tryd.func7, Tryd.ntmps7
  go_wp2_with fail
  refine Calls.mono HCo.out ?_
  rintro e w1 ⟨u, rfl, hown, b1⟩
  have HB1 : Hid (Below w.heap.size w w1) := b1
  obtain ⟨Lp, hL, hSt, hO⟩ := hown
  have hLl : Lp.length = l.length := by rw [← hL, List.length_map]
  have hLe : Lp.length ≤ 1048576 := by omega
  have HO : Hid (w1.ownsRow w.heap.size 37 3 u Lp.length (flatR Lp)) := hO
  have HL : Hid (Lp.map (·.1) = l) := hL
  have HSt : Hid (∀ p ∈ Lp, Strs w p.2 p.1.2.2) := hSt
  have HN6 : Hid (∀ (j : Nat) (u : Value), (flatR Mp)[j]? = some u → w1.cell? (ad.add j) = some u) := HNc.out w1 HB1.out
  have h56 := HB1.out.size
  clear hL hSt hO b1 hLl
  go_wp2_with (at_builtin; refine wpList_append_own _ rfl _ _ 22 rfl w.heap.size 37 i0 (.agg #[.string ⟨#[]⟩, .int .i64 0, .slice none 0 0]) 3 48 Tryd.underlying22 hi hz0 hz1 hz2 rfl (by decide) _ _ _ rfl HO.out ad Mp.length c2 (flatR Mp) rfl HNl.out HN6.out HN1.out (by unfold maxLen; omega) (by omega) h56 ?_)
  intro v' w2 hown' hgrow _
  have HB2 : Hid (Below w.heap.size w w2) := HB1.out.grown hgrow h56 (fun b hb => (World.ownsRow.lt HO.out b hb).1)
  have hR : OwnR w w.heap.size w2 v' (l ++ m) := by
    refine ⟨Lp ++ Mp, by rw [List.map_append, HL.out, HNm.out], fun p hp => ?_, by rw [List.length_append, flatR_append]; exact hown'⟩
    rcases List.mem_append.1 hp with hp | hp
    · exact HSt.out p hp
    · exact HNs.out p hp
  obtain ⟨⟨q, cc, rfl⟩, hbm, hbr⟩ := HBo.out w2 v' hR HB2.out
  have HBM : Hid (BM w2 (.slice q N cc) (.slice p3 n3 c3) false g) := hbm
  have HBR : Hid (BR w w2 (.slice q N cc) (.slice p3 n3 c3) z2 g2) := hbr
  clear hR hown' hgrow h56 hbm hbr HO HL HSt HN6 HNm HNs HNl HN1 HNc hi hz0 hz1 hz2 hLe hl1 hm1
  go_wp2_with fail
  refine Calls.mono (HM1.out _ HB2.out) ?_
  rintro e w3 ⟨rfl, b3⟩
  have HB3 : Hid (Below w.heap.size w w3) := HB2.out.trans (b3.mono HB2.out.size)
  have HC3 : Hid (Below w2.heap.size w2 w3) := b3
  clear b3
  go_wp2_with fail
  refine Calls.mono (HM2.out _ HB3.out) ?_
  rintro e w4 ⟨rfl, b4⟩
  have HB4 : Hid (Below w.heap.size w w4) := HB3.out.trans (b4.mono HB3.out.size)
  have HC4 : Hid (Below w2.heap.size w2 w4) := HC3.out.trans (b4.mono HC3.out.size)
  clear b4
  go_wp2_with fail
  refine Calls.mono (HBM.out _ HC4.out) ?_
  rintro e w5 ⟨rfl, b5⟩
  have HB5 : Hid (Below w.heap.size w w5) := HB4.out.trans (b5.mono HB4.out.size)
  have HC5 : Hid (Below w2.heap.size w2 w5) := HC4.out.trans (b5.mono HC4.out.size)
  clear b5
  go_wp2_with fail
  refine Calls.mono (HS.out _ HB5.out) ?_
  rintro e w6 ⟨rfl, b6⟩
  have HB6 : Hid (Below w.heap.size w w6) := HB5.out.trans (b6.mono HB5.out.size)
  have HC6 : Hid (Below w2.heap.size w2 w6) := HC5.out.trans (b6.mono HC5.out.size)
  clear b6
  go_wp2_with fail
  go_ret
  exact ⟨rfl, HB6.out⟩
set_option maxRecDepth 100000 in
set_option maxHeartbeats 4000000 in
theorem and_cs (p : Option Addr) (nl c : Nat) (p3 : Option Addr) (n3 c3 : Nat) (l m : List Rq) (N : Nat) (hN : (l ++ m).length = N) (g g2 : Int) (x y z2 : Bool) (h8 : 8 < N) (hg : g ≠ 0) (ad : Addr) (c2 : Nat) (Mp : List (Rq × Value)) (w : World) (hCo : Calls Tryd.prog 21 #[.slice p nl c] w fun e w' => ∃ u, e = .returned u ∧ OwnR w w.heap.size w' u l ∧ Below w.heap.size w w') (hM1 : ∀ w1, Below w.heap.size w w1 → Calls Tryd.prog 8 #[.slice p nl c, .slice p3 n3 c3] w1 fun en w' => en = .returned (.tuple #[.bool x, .int .i64 0]) ∧ Below w1.heap.size w1 w') (hM2 : ∀ w1, Below w.heap.size w w1 → Calls Tryd.prog 8 #[.slice (some ad) Mp.length c2, .slice p3 n3 c3] w1 fun en w' => en = .returned (.tuple #[.bool y, .int .i64 0]) ∧ Below w1.heap.size w1 w') (hBo : ∀ w2 bv, OwnR w w.heap.size w2 bv (l ++ m) → Below w.heap.size w w2 → (∃ q cc, bv = .slice q (l ++ m).length cc) ∧ BM w2 bv (.slice p3 n3 c3) false g ∧ BR w w2 bv (.slice p3 n3 c3) z2 g2) (hS : ∀ w1, Below w.heap.size w w1 → Calls Tryd.prog 20 #[] w1 fun e w' => e = .returned (.bool true) ∧ Below w1.heap.size w1 w') (hl1 : l.length ≤ 1048576) (hm1 : Mp.length ≤ 1048576) (hNm : Mp.map (·.1) = m) (hNs : ∀ p ∈ Mp, Strs w p.2 p.1.2.2) (hNl : (flatR Mp).length = Mp.length * 3) (hN1 : ∀ u ∈ flatR Mp, u.oneCell' = true) (hNc : ∀ w1, Below w.heap.size w w1 → ∀ (j : Nat) (u : Value), (flatR Mp)[j]? = some u → w1.cell? (ad.add j) = some u) :
    Calls Tryd.prog 7 #[.slice p nl c, .slice (some ad) Mp.length c2, .slice p3 n3 c3] w fun e w' => e = .returned (.bool true) ∧ Below w.heap.size w w' := by
  obtain ⟨i0, hi, hz0, hz1, hz2⟩ := info_parts info_req
  rw [hN] at hBo
  have HCo : Hid (Calls Tryd.prog 21 #[.slice p nl c] w fun e w' => ∃ u, e = .returned u ∧ OwnR w w.heap.size w' u l ∧ Below w.heap.size w w') := hCo
  have HM1 : Hid (∀ w1, Below w.heap.size w w1 → Calls Tryd.prog 8 #[.slice p nl c, .slice p3 n3 c3] w1 fun en w' => en = .returned (.tuple #[.bool x, .int .i64 0]) ∧ Below w1.heap.size w1 w') := hM1
  have HM2 : Hid (∀ w1, Below w.heap.size w w1 → Calls Tryd.prog 8 #[.slice (some ad) Mp.length c2, .slice p3 n3 c3] w1 fun en w' => en = .returned (.tuple #[.bool y, .int .i64 0]) ∧ Below w1.heap.size w1 w') := hM2
  have HBo : Hid (∀ w2 bv, OwnR w w.heap.size w2 bv (l ++ m) → Below w.heap.size w w2 → (∃ q cc, bv = .slice q N cc) ∧ BM w2 bv (.slice p3 n3 c3) false g ∧ BR w w2 bv (.slice p3 n3 c3) z2 g2) := hBo
  have HS : Hid (∀ w1, Below w.heap.size w w1 → Calls Tryd.prog 20 #[] w1 fun e w' => e = .returned (.bool true) ∧ Below w1.heap.size w1 w') := hS
  clear hCo hM1 hM2 hBo hS hN
  have h8i : (8 : Int) < (N : Int) := by omega
  clear h8
  have hgb : (g != 0) = true := by simpa using hg
  clear hg
  have HNm : Hid (Mp.map (·.1) = m) := hNm
  have HNs : Hid (∀ p ∈ Mp, Strs w p.2 p.1.2.2) := hNs
  have HNl : Hid ((flatR Mp).length = Mp.length * 3) := hNl
  have HN1 : Hid (∀ u ∈ flatR Mp, u.oneCell' = true) := hN1
  have HNc : Hid (∀ w1, Below w.heap.size w w1 → ∀ (j : Nat) (u : Value), (flatR Mp)[j]? = some u → w1.cell? (ad.add j) = some u) := hNc
  clear hNm hNs hNl hN1 hNc
  go_enter Tryd.func7, Tryd.ntmps7
  go_wp2_with fail
  refine Calls.mono HCo.out ?_
  rintro e w1 ⟨u, rfl, hown, b1⟩
  have HB1 : Hid (Below w.heap.size w w1) := b1
  obtain ⟨Lp, hL, hSt, hO⟩ := hown
  have hLl : Lp.length = l.length := by rw [← hL, List.length_map]
  have hLe : Lp.length ≤ 1048576 := by omega
  have HO : Hid (w1.ownsRow w.heap.size 37 3 u Lp.length (flatR Lp)) := hO
  have HL : Hid (Lp.map (·.1) = l) := hL
  have HSt : Hid (∀ p ∈ Lp, Strs w p.2 p.1.2.2) := hSt
  have HN6 : Hid (∀ (j : Nat) (u : Value), (flatR Mp)[j]? = some u → w1.cell? (ad.add j) = some u) := HNc.out w1 HB1.out
  have h56 := HB1.out.size
  clear hL hSt hO b1 hLl
  go_wp2_with (at_builtin; refine wpList_append_own _ rfl _ _ 22 rfl w.heap.size 37 i0 (.agg #[.string ⟨#[]⟩, .int .i64 0, .slice none 0 0]) 3 48 Tryd.underlying22 hi hz0 hz1 hz2 rfl (by decide) _ _ _ rfl HO.out ad Mp.length c2 (flatR Mp) rfl HNl.out HN6.out HN1.out (by unfold maxLen; omega) (by omega) h56 ?_)
  intro v' w2 hown' hgrow _
  have HB2 : Hid (Below w.heap.size w w2) := HB1.out.grown hgrow h56 (fun b hb => (World.ownsRow.lt HO.out b hb).1)
  have hR : OwnR w w.heap.size w2 v' (l ++ m) := by
    refine ⟨Lp ++ Mp, by rw [List.map_append, HL.out, HNm.out], fun p hp => ?_, by rw [List.length_append, flatR_append]; exact hown'⟩
    rcases List.mem_append.1 hp with hp | hp
    · exact HSt.out p hp
    · exact HNs.out p hp
  obtain ⟨⟨q, cc, rfl⟩, hbm, hbr⟩ := HBo.out w2 v' hR HB2.out
  have HBM : Hid (BM w2 (.slice q N cc) (.slice p3 n3 c3) false g) := hbm
  have HBR : Hid (BR w w2 (.slice q N cc) (.slice p3 n3 c3) z2 g2) := hbr
  clear hR hown' hgrow h56 hbm hbr HO HL HSt HN6 HNm HNs HNl HN1 HNc hi hz0 hz1 hz2 hLe hl1 hm1
  go_wp2_with fail
  refine Calls.mono (HM1.out _ HB2.out) ?_
  rintro e w3 ⟨rfl, b3⟩
  have HB3 : Hid (Below w.heap.size w w3) := HB2.out.trans (b3.mono HB2.out.size)
  have HC3 : Hid (Below w2.heap.size w2 w3) := b3
  clear b3
  go_wp2_with fail
  refine Calls.mono (HM2.out _ HB3.out) ?_
  rintro e w4 ⟨rfl, b4⟩
  have HB4 : Hid (Below w.heap.size w w4) := HB3.out.trans (b4.mono HB3.out.size)
  have HC4 : Hid (Below w2.heap.size w2 w4) := HC3.out.trans (b4.mono HC3.out.size)
  clear b4
  go_wp2_with fail
  refine Calls.mono (HBM.out _ HC4.out) ?_
  rintro e w5 ⟨rfl, b5⟩
  have HB5 : Hid (Below w.heap.size w w5) := HB4.out.trans (b5.mono HB4.out.size)
  have HC5 : Hid (Below w2.heap.size w2 w5) := HC4.out.trans (b5.mono HC4.out.size)
  clear b5
  go_wp2_with fail
  refine Calls.mono (HS.out _ HB5.out) ?_
  rintro e w6 ⟨rfl, b6⟩
  have HB6 : Hid (Below w.heap.size w w6) := HB5.out.trans (b6.mono HB5.out.size)
  have HC6 : Hid (Below w2.heap.size w2 w6) := HC5.out.trans (b6.mono HC5.out.size)
  clear b6
  go_wp2_with fail
  go_ret
  exact ⟨rfl, HB6.out⟩
set_option maxRecDepth 100000 in
set_option maxHeartbeats 4000000 in
theorem and_dtts (p : Option Addr) (nl c : Nat) (p3 : Option Addr) (n3 c3 : Nat) (l m : List Rq) (N : Nat) (hN : (l ++ m).length = N) (h8 : N ≤ 8) (ad : Addr) (c2 : Nat) (Mp : List (Rq × Value)) (w : World) (hCo : Calls Tryd.prog 21 #[.slice p nl c] w fun e w' => ∃ u, e = .returned u ∧ OwnR w w.heap.size w' u l ∧ Below w.heap.size w w') (hM1 : ∀ w1, Below w.heap.size w w1 → Calls Tryd.prog 8 #[.slice p nl c, .slice p3 n3 c3] w1 fun en w' => en = .returned (.tuple #[.bool true, .int .i64 0]) ∧ Below w1.heap.size w1 w') (hM2 : ∀ w1, Below w.heap.size w w1 → Calls Tryd.prog 8 #[.slice (some ad) Mp.length c2, .slice p3 n3 c3] w1 fun en w' => en = .returned (.tuple #[.bool true, .int .i64 0]) ∧ Below w1.heap.size w1 w') (hBo : ∀ w2 bv, OwnR w w.heap.size w2 bv (l ++ m) → Below w.heap.size w w2 → (∃ q cc, bv = .slice q (l ++ m).length cc) ∧ BM w2 bv (.slice p3 n3 c3) true 0 ∧ BR w w2 bv (.slice p3 n3 c3) true 0) (hS : ∀ w1, Below w.heap.size w w1 → Calls Tryd.prog 20 #[] w1 fun e w' => e = .returned (.bool true) ∧ Below w1.heap.size w1 w') (hl1 : l.length ≤ 1048576) (hm1 : Mp.length ≤ 1048576) (hNm : Mp.map (·.1) = m) (hNs : ∀ p ∈ Mp, Strs w p.2 p.1.2.2) (hNl : (flatR Mp).length = Mp.length * 3) (hN1 : ∀ u ∈ flatR Mp, u.oneCell' = true) (hNc : ∀ w1, Below w.heap.size w w1 → ∀ (j : Nat) (u : Value), (flatR Mp)[j]? = some u → w1.cell? (ad.add j) = some u) :
    Calls Tryd.prog 7 #[.slice p nl c, .slice (some ad) Mp.length c2, .slice p3 n3 c3] w fun e w' => e = .returned (.bool true) ∧ Below w.heap.size w w' := by
  obtain ⟨i0, hi, hz0, hz1, hz2⟩ := info_parts info_req
  rw [hN] at hBo
  have HCo : Hid (Calls Tryd.prog 21 #[.slice p nl c] w fun e w' => ∃ u, e = .returned u ∧ OwnR w w.heap.size w' u l ∧ Below w.heap.size w w') := hCo
  have HM1 : Hid (∀ w1, Below w.heap.size w w1 → Calls Tryd.prog 8 #[.slice p nl c, .slice p3 n3 c3] w1 fun en w' => en = .returned (.tuple #[.bool true, .int .i64 0]) ∧ Below w1.heap.size w1 w') := hM1
  have HM2 : Hid (∀ w1, Below w.heap.size w w1 → Calls Tryd.prog 8 #[.slice (some ad) Mp.length c2, .slice p3 n3 c3] w1 fun en w' => en = .returned (.tuple #[.bool true, .int .i64 0]) ∧ Below w1.heap.size w1 w') := hM2
  have HBo : Hid (∀ w2 bv, OwnR w w.heap.size w2 bv (l ++ m) → Below w.heap.size w w2 → (∃ q cc, bv = .slice q N cc) ∧ BM w2 bv (.slice p3 n3 c3) true 0 ∧ BR w w2 bv (.slice p3 n3 c3) true 0) := hBo
  have HS : Hid (∀ w1, Below w.heap.size w w1 → Calls Tryd.prog 20 #[] w1 fun e w' => e = .returned (.bool true) ∧ Below w1.heap.size w1 w') := hS
  clear hCo hM1 hM2 hBo hS hN
  have h8i : (N : Int) ≤ 8 := by omega
  clear h8
  have HNm : Hid (Mp.map (·.1) = m) := hNm
  have HNs : Hid (∀ p ∈ Mp, Strs w p.2 p.1.2.2) := hNs
  have HNl : Hid ((flatR Mp).length = Mp.length * 3) := hNl
  have HN1 : Hid (∀ u ∈ flatR Mp, u.oneCell' = true) := hN1
  have HNc : Hid (∀ w1, Below w.heap.size w w1 → ∀ (j : Nat) (u : Value), (flatR Mp)[j]? = some u → w1.cell? (ad.add j) = some u) := hNc
  clear hNm hNs hNl hN1 hNc
  go_enter Tryd.func7, Tryd.ntmps7
  go_wp2_with fail
  refine Calls.mono HCo.out ?_
  rintro e w1 ⟨u, rfl, hown, b1⟩
  have HB1 : Hid (Below w.heap.size w w1) := b1
  obtain ⟨Lp, hL, hSt, hO⟩ := hown
  have hLl : Lp.length = l.length := by rw [← hL, List.length_map]
  have hLe : Lp.length ≤ 1048576 := by omega
  have HO : Hid (w1.ownsRow w.heap.size 37 3 u Lp.length (flatR Lp)) := hO
  have HL : Hid (Lp.map (·.1) = l) := hL
  have HSt : Hid (∀ p ∈ Lp, Strs w p.2 p.1.2.2) := hSt
  have HN6 : Hid (∀ (j : Nat) (u : Value), (flatR Mp)[j]? = some u → w1.cell? (ad.add j) = some u) := HNc.out w1 HB1.out
  have h56 := HB1.out.size
  clear hL hSt hO b1 hLl
  go_wp2_with (at_builtin; refine wpList_append_own _ rfl _ _ 22 rfl w.heap.size 37 i0 (.agg #[.string ⟨#[]⟩, .int .i64 0, .slice none 0 0]) 3 48 Tryd.underlying22 hi hz0 hz1 hz2 rfl (by decide) _ _ _ rfl HO.out ad Mp.length c2 (flatR Mp) rfl HNl.out HN6.out HN1.out (by unfold maxLen; omega) (by omega) h56 ?_)
  intro v' w2 hown' hgrow _
  have HB2 : Hid (Below w.heap.size w w2) := HB1.out.grown hgrow h56 (fun b hb => (World.ownsRow.lt HO.out b hb).1)
  have hR : OwnR w w.heap.size w2 v' (l ++ m) := by
    refine ⟨Lp ++ Mp, by rw [List.map_append, HL.out, HNm.out], fun p hp => ?_, by rw [List.length_append, flatR_append]; exact hown'⟩
    rcases List.mem_append.1 hp with hp | hp
    · exact HSt.out p hp
    · exact HNs.out p hp
  obtain ⟨⟨q, cc, rfl⟩, hbm, hbr⟩ := HBo.out w2 v' hR HB2.out
  have HBM : Hid (BM w2 (.slice q N cc) (.slice p3 n3 c3) true 0) := hbm
  have HBR : Hid (BR w w2 (.slice q N cc) (.slice p3 n3 c3) true 0) := hbr
  clear hR hown' hgrow h56 hbm hbr HO HL HSt HN6 HNm HNs HNl HN1 HNc hi hz0 hz1 hz2 hLe hl1 hm1
  go_wp2_with fail
  refine Calls.mono (HM1.out _ HB2.out) ?_
  rintro e w3 ⟨rfl, b3⟩
  have HB3 : Hid (Below w.heap.size w w3) := HB2.out.trans (b3.mono HB2.out.size)
  have HC3 : Hid (Below w2.heap.size w2 w3) := b3
  clear b3
  go_wp2_with fail
  refine Calls.mono (HM2.out _ HB3.out) ?_
  rintro e w4 ⟨rfl, b4⟩
  have HB4 : Hid (Below w.heap.size w w4) := HB3.out.trans (b4.mono HB3.out.size)
  have HC4 : Hid (Below w2.heap.size w2 w4) := HC3.out.trans (b4.mono HC3.out.size)
  clear b4
  go_wp2_with fail
  refine Calls.mono (HBM.out _ HC4.out) ?_
  rintro e w5 ⟨rfl, b5⟩
  have HB5 : Hid (Below w.heap.size w w5) := HB4.out.trans (b5.mono HB4.out.size)
  have HC5 : Hid (Below w2.heap.size w2 w5) := HC4.out.trans (b5.mono HC4.out.size)
  clear b5
  go_wp2_with fail
  refine Calls.mono (HS.out _ HB5.out) ?_
  rintro e w6 ⟨rfl, b6⟩
  have HB6 : Hid (Below w.heap.size w w6) := HB5.out.trans (b6.mono HB5.out.size)
  have HC6 : Hid (Below w2.heap.size w2 w6) := HC5.out.trans (b6.mono HC5.out.size)
  clear b6
  go_wp2_with fail
  refine Calls.mono (HBR.out _ HC6.out) ?_
  rintro e w7 ⟨rfl, b7, hm7⟩
  have HB7 : Hid (Below w.heap.size w w7) := b7
  have HM7 : Hid (Calls Tryd.prog 8 #[.slice q N cc, .slice p3 n3 c3] w7 fun en w'' => en = .returned (.tuple #[.bool true, .int .i64 0]) ∧ Below w7.heap.size w7 w'') := hm7
  clear b7 hm7
  go_wp2_with fail
  refine Calls.mono HM7.out ?_
  rintro e w8 ⟨rfl, b8⟩
  have HB8 : Hid (Below w.heap.size w w8) := HB7.out.trans (b8.mono HB7.out.size)
  clear b8
  go_wp2_with fail
  go_ret
  exact ⟨rfl, HB8.out⟩
set_option maxRecDepth 100000 in
set_option maxHeartbeats 4000000 in
theorem and_dtfs (p : Option Addr) (nl c : Nat) (p3 : Option Addr) (n3 c3 : Nat) (l m : List Rq) (N : Nat) (hN : (l ++ m).length = N) (h8 : N ≤ 8) (ad : Addr) (c2 : Nat) (Mp : List (Rq × Value)) (w : World) (hCo : Calls Tryd.prog 21 #[.slice p nl c] w fun e w' => ∃ u, e = .returned u ∧ OwnR w w.heap.size w' u l ∧ Below w.heap.size w w') (hM1 : ∀ w1, Below w.heap.size w w1 → Calls Tryd.prog 8 #[.slice p nl c, .slice p3 n3 c3] w1 fun en w' => en = .returned (.tuple #[.bool true, .int .i64 0]) ∧ Below w1.heap.size w1 w') (hM2 : ∀ w1, Below w.heap.size w w1 → Calls Tryd.prog 8 #[.slice (some ad) Mp.length c2, .slice p3 n3 c3] w1 fun en w' => en = .returned (.tuple #[.bool false, .int .i64 0]) ∧ Below w1.heap.size w1 w') (hBo : ∀ w2 bv, OwnR w w.heap.size w2 bv (l ++ m) → Below w.heap.size w w2 → (∃ q cc, bv = .slice q (l ++ m).length cc) ∧ BM w2 bv (.slice p3 n3 c3) false 0 ∧ BR w w2 bv (.slice p3 n3 c3) false 0) (hS : ∀ w1, Below w.heap.size w w1 → Calls Tryd.prog 20 #[] w1 fun e w' => e = .returned (.bool true) ∧ Below w1.heap.size w1 w') (hl1 : l.length ≤ 1048576) (hm1 : Mp.length ≤ 1048576) (hNm : Mp.map (·.1) = m) (hNs : ∀ p ∈ Mp, Strs w p.2 p.1.2.2) (hNl : (flatR Mp).length = Mp.length * 3) (hN1 : ∀ u ∈ flatR Mp, u.oneCell' = true) (hNc : ∀ w1, Below w.heap.size w w1 → ∀ (j : Nat) (u : Value), (flatR Mp)[j]? = some u → w1.cell? (ad.add j) = some u) :
    Calls Tryd.prog 7 #[.slice p nl c, .slice (some ad) Mp.length c2, .slice p3 n3 c3] w fun e w' => e = .returned (.bool true) ∧ Below w.heap.size w w' := by
  obtain ⟨i0, hi, hz0, hz1, hz2⟩ := info_parts info_req
  rw [hN] at hBo
  have HCo : Hid (Calls Tryd.prog 21 #[.slice p nl c] w fun e w' => ∃ u, e = .returned u ∧ OwnR w w.heap.size w' u l ∧ Below w.heap.size w w') := hCo
  have HM1 : Hid (∀ w1, Below w.heap.size w w1 → Calls Tryd.prog 8 #[.slice p nl c, .slice p3 n3 c3] w1 fun en w' => en = .returned (.tuple #[.bool true, .int .i64 0]) ∧ Below w1.heap.size w1 w') := hM1
  have HM2 : Hid (∀ w1, Below w.heap.size w w1 → Calls Tryd.prog 8 #[.slice (some ad) Mp.length c2, .slice p3 n3 c3] w1 fun en w' => en = .returned (.tuple #[.bool false, .int .i64 0]) ∧ Below w1.heap.size w1 w') := hM2
  have HBo : Hid (∀ w2 bv, OwnR w w.heap.size w2 bv (l ++ m) → Below w.heap.size w w2 → (∃ q cc, bv = .slice q N cc) ∧ BM w2 bv (.slice p3 n3 c3) false 0 ∧ BR w w2 bv (.slice p3 n3 c3) false 0) := hBo
  have HS : Hid (∀ w1, Below w.heap.size w w1 → Calls Tryd.prog 20 #[] w1 fun e w' => e = .returned (.bool true) ∧ Below w1.heap.size w1 w') := hS
  clear hCo hM1 hM2 hBo hS hN
  have h8i : (N : Int) ≤ 8 := by omega
  clear h8
  have HNm : Hid (Mp.map (·.1) = m) := hNm
  have HNs : Hid (∀ p ∈ Mp, Strs w p.2 p.1.2.2) := hNs
  have HNl : Hid ((flatR Mp).length = Mp.length * 3) := hNl
  have HN1 : Hid (∀ u ∈ flatR Mp, u.oneCell' = true) := hN1
  have HNc : Hid (∀ w1, Below w.heap.size w w1 → ∀ (j : Nat) (u : Value), (flatR Mp)[j]? = some u → w1.cell? (ad.add j) = some u) := hNc
  clear hNm hNs hNl hN1 hNc
  go_enter Tryd.func7, Tryd.ntmps7
  go_wp2_with fail
  refine Calls.mono HCo.out ?_
  rintro e w1 ⟨u, rfl, hown, b1⟩
  have HB1 : Hid (Below w.heap.size w w1) := b1
  obtain ⟨Lp, hL, hSt, hO⟩ := hown
  have hLl : Lp.length = l.length := by rw [← hL, List.length_map]
  have hLe : Lp.length ≤ 1048576 := by omega
  have HO : Hid (w1.ownsRow w.heap.size 37 3 u Lp.length (flatR Lp)) := hO
  have HL : Hid (Lp.map (·.1) = l) := hL
  have HSt : Hid (∀ p ∈ Lp, Strs w p.2 p.1.2.2) := hSt
  have HN6 : Hid (∀ (j : Nat) (u : Value), (flatR Mp)[j]? = some u → w1.cell? (ad.add j) = some u) := HNc.out w1 HB1.out
  have h56 := HB1.out.size
  clear hL hSt hO b1 hLl
  go_wp2_with (at_builtin; refine wpList_append_own _ rfl _ _ 22 rfl w.heap.size 37 i0 (.agg #[.string ⟨#[]⟩, .int .i64 0, .slice none 0 0]) 3 48 Tryd.underlying22 hi hz0 hz1 hz2 rfl (by decide) _ _ _ rfl HO.out ad Mp.length c2 (flatR Mp) rfl HNl.out HN6.out HN1.out (by unfold maxLen; omega) (by omega) h56 ?_)
  intro v' w2 hown' hgrow _
  have HB2 : Hid (Below w.heap.size w w2) := HB1.out.grown hgrow h56 (fun b hb => (World.ownsRow.lt HO.out b hb).1)
  have hR : OwnR w w.heap.size w2 v' (l ++ m) := by
    refine ⟨Lp ++ Mp, by rw [List.map_append, HL.out, HNm.out], fun p hp => ?_, by rw [List.length_append, flatR_append]; exact hown'⟩
    rcases List.mem_append.1 hp with hp | hp
    · exact HSt.out p hp
    · exact HNs.out p hp
  obtain ⟨⟨q, cc, rfl⟩, hbm, hbr⟩ := HBo.out w2 v' hR HB2.out
  have HBM : Hid (BM w2 (.slice q N cc) (.slice p3 n3 c3) false 0) := hbm
  have HBR : Hid (BR w w2 (.slice q N cc) (.slice p3 n3 c3) false 0) := hbr
  clear hR hown' hgrow h56 hbm hbr HO HL HSt HN6 HNm HNs HNl HN1 HNc hi hz0 hz1 hz2 hLe hl1 hm1
  go_wp2_with fail
  refine Calls.mono (HM1.out _ HB2.out) ?_
  rintro e w3 ⟨rfl, b3⟩
  have HB3 : Hid (Below w.heap.size w w3) := HB2.out.trans (b3.mono HB2.out.size)
  have HC3 : Hid (Below w2.heap.size w2 w3) := b3
  clear b3
  go_wp2_with fail
  refine Calls.mono (HM2.out _ HB3.out) ?_
  rintro e w4 ⟨rfl, b4⟩
  have HB4 : Hid (Below w.heap.size w w4) := HB3.out.trans (b4.mono HB3.out.size)
  have HC4 : Hid (Below w2.heap.size w2 w4) := HC3.out.trans (b4.mono HC3.out.size)
  clear b4
  go_wp2_with fail
  refine Calls.mono (HBM.out _ HC4.out) ?_
  rintro e w5 ⟨rfl, b5⟩
  have HB5 : Hid (Below w.heap.size w w5) := HB4.out.trans (b5.mono HB4.out.size)
  have HC5 : Hid (Below w2.heap.size w2 w5) := HC4.out.trans (b5.mono HC4.out.size)
  clear b5
  go_wp2_with fail
  refine Calls.mono (HS.out _ HB5.out) ?_
  rintro e w6 ⟨rfl, b6⟩
  have HB6 : Hid (Below w.heap.size w w6) := HB5.out.trans (b6.mono HB5.out.size)
  have HC6 : Hid (Below w2.heap.size w2 w6) := HC5.out.trans (b6.mono HC5.out.size)
  clear b6
  go_wp2_with fail
  refine Calls.mono (HBR.out _ HC6.out) ?_
  rintro e w7 ⟨rfl, b7, hm7⟩
  have HB7 : Hid (Below w.heap.size w w7) := b7
  have HM7 : Hid (Calls Tryd.prog 8 #[.slice q N cc, .slice p3 n3 c3] w7 fun en w'' => en = .returned (.tuple #[.bool false, .int .i64 0]) ∧ Below w7.heap.size w7 w'') := hm7
  clear b7 hm7
  go_wp2_with fail
  refine Calls.mono HM7.out ?_
  rintro e w8 ⟨rfl, b8⟩
  have HB8 : Hid (Below w.heap.size w w8) := HB7.out.trans (b8.mono HB7.out.size)
  clear b8
  go_wp2_with fail
  go_ret
  exact ⟨rfl, HB8.out⟩
set_option maxRecDepth 100000 in
set_option maxHeartbeats 4000000 in
theorem and_dfts (p : Option Addr) (nl c : Nat) (p3 : Option Addr) (n3 c3 : Nat) (l m : List Rq) (N : Nat) (hN : (l ++ m).length = N) (h8 : N ≤ 8) (ad : Addr) (c2 : Nat) (Mp : List (Rq × Value)) (w : World) (hCo : Calls Tryd.prog 21 #[.slice p nl c] w fun e w' => ∃ u, e = .returned u ∧ OwnR w w.heap.size w' u l ∧ Below w.heap.size w w') (hM1 : ∀ w1, Below w.heap.size w w1 → Calls Tryd.prog 8 #[.slice p nl c, .slice p3 n3 c3] w1 fun en w' => en = .returned (.tuple #[.bool false, .int .i64 0]) ∧ Below w1.heap.size w1 w') (hM2 : ∀ w1, Below w.heap.size w w1 → Calls Tryd.prog 8 #[.slice (some ad) Mp.length c2, .slice p3 n3 c3] w1 fun en w' => en = .returned (.tuple #[.bool true, .int .i64 0]) ∧ Below w1.heap.size w1 w') (hBo : ∀ w2 bv, OwnR w w.heap.size w2 bv (l ++ m) → Below w.heap.size w w2 → (∃ q cc, bv = .slice q (l ++ m).length cc) ∧ BM w2 bv (.slice p3 n3 c3) false 0 ∧ BR w w2 bv (.slice p3 n3 c3) false 0) (hS : ∀ w1, Below w.heap.size w w1 → Calls Tryd.prog 20 #[] w1 fun e w' => e = .returned (.bool true) ∧ Below w1.heap.size w1 w') (hl1 : l.length ≤ 1048576) (hm1 : Mp.length ≤ 1048576) (hNm : Mp.map (·.1) = m) (hNs : ∀ p ∈ Mp, Strs w p.2 p.1.2.2) (hNl : (flatR Mp).length = Mp.length * 3) (hN1 : ∀ u ∈ flatR Mp, u.oneCell' = true) (hNc : ∀ w1, Below w.heap.size w w1 → ∀ (j : Nat) (u : Value), (flatR Mp)[j]? = some u → w1.cell? (ad.add j) = some u) :
    Calls Tryd.prog 7 #[.slice p nl c, .slice (some ad) Mp.length c2, .slice p3 n3 c3] w fun e w' => e = .returned (.bool true) ∧ Below w.heap.size w w' := by
  obtain ⟨i0, hi, hz0, hz1, hz2⟩ := info_parts info_req
  rw [hN] at hBo
  have HCo : Hid (Calls Tryd.prog 21 #[.slice p nl c] w fun e w' => ∃ u, e = .returned u ∧ OwnR w w.heap.size w' u l ∧ Below w.heap.size w w') := hCo
  have HM1 : Hid (∀ w1, Below w.heap.size w w1 → Calls Tryd.prog 8 #[.slice p nl c, .slice p3 n3 c3] w1 fun en w' => en = .returned (.tuple #[.bool false, .int .i64 0]) ∧ Below w1.heap.size w1 w') := hM1
  have HM2 : Hid (∀ w1, Below w.heap.size w w1 → Calls Tryd.prog 8 #[.slice (some ad) Mp.length c2, .slice p3 n3 c3] w1 fun en w' => en = .returned (.tuple #[.bool true, .int .i64 0]) ∧ Below w1.heap.size w1 w') := hM2
  have HBo : Hid (∀ w2 bv, OwnR w w.heap.size w2 bv (l ++ m) → Below w.heap.size w w2 → (∃ q cc, bv = .slice q N cc) ∧ BM w2 bv (.slice p3 n3 c3) false 0 ∧ BR w w2 bv (.slice p3 n3 c3) false 0) := hBo
  have HS : Hid (∀ w1, Below w.heap.size w w1 → Calls Tryd.prog 20 #[] w1 fun e w' => e = .returned (.bool true) ∧ Below w1.heap.size w1 w') := hS
  clear hCo hM1 hM2 hBo hS hN
  have h8i : (N : Int) ≤ 8 := by omega
  clear h8
  have HNm : Hid (Mp.map (·.1) = m) := hNm
  have HNs : Hid (∀ p ∈ Mp, Strs w p.2 p.1.2.2) := hNs
  have HNl : Hid ((flatR Mp).length = Mp.length * 3) := hNl
  have HN1 : Hid (∀ u ∈ flatR Mp, u.oneCell' = true) := hN1
  have HNc : Hid (∀ w1, Below w.heap.size w w1 → ∀ (j : Nat) (u : Value), (flatR Mp)[j]? = some u → w1.cell? (ad.add j) = some u) := hNc
  clear hNm hNs hNl hN1 hNc
  go_enter Tryd.func7, Tryd.ntmps7
  go_wp2_with fail
  refine Calls.mono HCo.out ?_
  rintro e w1 ⟨u, rfl, hown, b1⟩
  have HB1 : Hid (Below w.heap.size w w1) := b1
  obtain ⟨Lp, hL, hSt, hO⟩ := hown
  have hLl : Lp.length = l.length := by rw [← hL, List.length_map]
  have hLe : Lp.length ≤ 1048576 := by omega
  have HO : Hid (w1.ownsRow w.heap.size 37 3 u Lp.length (flatR Lp)) := hO
  have HL : Hid (Lp.map (·.1) = l) := hL
  have HSt : Hid (∀ p ∈ Lp, Strs w p.2 p.1.2.2) := hSt
  have HN6 : Hid (∀ (j : Nat) (u : Value), (flatR Mp)[j]? = some u → w1.cell? (ad.add j) = some u) := HNc.out w1 HB1.out
  have h56 := HB1.out.size
  clear hL hSt hO b1 hLl
  go_wp2_with (at_builtin; refine wpList_append_own _ rfl _ _ 22 rfl w.heap.size 37 i0 (.agg #[.string ⟨#[]⟩, .int .i64 0, .slice none 0 0]) 3 48 Tryd.underlying22 hi hz0 hz1 hz2 rfl (by decide) _ _ _ rfl HO.out ad Mp.length c2 (flatR Mp) rfl HNl.out HN6.out HN1.out (by unfold maxLen; omega) (by omega) h56 ?_)
  intro v' w2 hown' hgrow _
  have HB2 : Hid (Below w.heap.size w w2) := HB1.out.grown hgrow h56 (fun b hb => (World.ownsRow.lt HO.out b hb).1)
  have hR : OwnR w w.heap.size w2 v' (l ++ m) := by
    refine ⟨Lp ++ Mp, by rw [List.map_append, HL.out, HNm.out], fun p hp => ?_, by rw [List.length_append, flatR_append]; exact hown'⟩
    rcases List.mem_append.1 hp with hp | hp
    · exact HSt.out p hp
    · exact HNs.out p hp
  obtain ⟨⟨q, cc, rfl⟩, hbm, hbr⟩ := HBo.out w2 v' hR HB2.out
  have HBM : Hid (BM w2 (.slice q N cc) (.slice p3 n3 c3) false 0) := hbm
  have HBR : Hid (BR w w2 (.slice q N cc) (.slice p3 n3 c3) false 0) := hbr
  clear hR hown' hgrow h56 hbm hbr HO HL HSt HN6 HNm HNs HNl HN1 HNc hi hz0 hz1 hz2 hLe hl1 hm1
  go_wp2_with fail
  refine Calls.mono (HM1.out _ HB2.out) ?_
  rintro e w3 ⟨rfl, b3⟩
  have HB3 : Hid (Below w.heap.size w w3) := HB2.out.trans (b3.mono HB2.out.size)
  have HC3 : Hid (Below w2.heap.size w2 w3) := b3
  clear b3
  go_wp2_with fail
  refine Calls.mono (HM2.out _ HB3.out) ?_
  rintro e w4 ⟨rfl, b4⟩
  have HB4 : Hid (Below w.heap.size w w4) := HB3.out.trans (b4.mono HB3.out.size)
  have HC4 : Hid (Below w2.heap.size w2 w4) := HC3.out.trans (b4.mono HC3.out.size)
  clear b4
  go_wp2_with fail
  refine Calls.mono (HBM.out _ HC4.out) ?_
  rintro e w5 ⟨rfl, b5⟩
  have HB5 : Hid (Below w.heap.size w w5) := HB4.out.trans (b5.mono HB4.out.size)
  have HC5 : Hid (Below w2.heap.size w2 w5) := HC4.out.trans (b5.mono HC4.out.size)
  clear b5
  go_wp2_with fail
  refine Calls.mono (HS.out _ HB5.out) ?_
  rintro e w6 ⟨rfl, b6⟩
  have HB6 : Hid (Below w.heap.size w w6) := HB5.out.trans (b6.mono HB5.out.size)
  have HC6 : Hid (Below w2.heap.size w2 w6) := HC5.out.trans (b6.mono HC5.out.size)
  clear b6
  go_wp2_with fail
  refine Calls.mono (HBR.out _ HC6.out) ?_
  rintro e w7 ⟨rfl, b7, hm7⟩
  have HB7 : Hid (Below w.heap.size w w7) := b7
  have HM7 : Hid (Calls Tryd.prog 8 #[.slice q N cc, .slice p3 n3 c3] w7 fun en w'' => en = .returned (.tuple #[.bool false, .int .i64 0]) ∧ Below w7.heap.size w7 w'') := hm7
  clear b7 hm7
  go_wp2_with fail
  refine Calls.mono HM7.out ?_
  rintro e w8 ⟨rfl, b8⟩
  have HB8 : Hid (Below w.heap.size w w8) := HB7.out.trans (b8.mono HB7.out.size)
  clear b8
  go_wp2_with fail
  go_ret
  exact ⟨rfl, HB8.out⟩
set_option maxRecDepth 100000 in
set_option maxHeartbeats 4000000 in
theorem and_dffs (p : Option Addr) (nl c : Nat) (p3 : Option Addr) (n3 c3 : Nat) (l m : List Rq) (N : Nat) (hN : (l ++ m).length = N) (h8 : N ≤ 8) (ad : Addr) (c2 : Nat) (Mp : List (Rq × Value)) (w : World) (hCo : Calls Tryd.prog 21 #[.slice p nl c] w fun e w' => ∃ u, e = .returned u ∧ OwnR w w.heap.size w' u l ∧ Below w.heap.size w w') (hM1 : ∀ w1, Below w.heap.size w w1 → Calls Tryd.prog 8 #[.slice p nl c, .slice p3 n3 c3] w1 fun en w' => en = .returned (.tuple #[.bool false, .int .i64 0]) ∧ Below w1.heap.size w1 w') (hM2 : ∀ w1, Below w.heap.size w w1 → Calls Tryd.prog 8 #[.slice (some ad) Mp.length c2, .slice p3 n3 c3] w1 fun en w' => en = .returned (.tuple #[.bool false, .int .i64 0]) ∧ Below w1.heap.size w1 w') (hBo : ∀ w2 bv, OwnR w w.heap.size w2 bv (l ++ m) → Below w.heap.size w w2 → (∃ q cc, bv = .slice q (l ++ m).length cc) ∧ BM w2 bv (.slice p3 n3 c3) false 0 ∧ BR w w2 bv (.slice p3 n3 c3) false 0) (hS : ∀ w1, Below w.heap.size w w1 → Calls Tryd.prog 20 #[] w1 fun e w' => e = .returned (.bool true) ∧ Below w1.heap.size w1 w') (hl1 : l.length ≤ 1048576) (hm1 : Mp.length ≤ 1048576) (hNm : Mp.map (·.1) = m) (hNs : ∀ p ∈ Mp, Strs w p.2 p.1.2.2) (hNl : (flatR Mp).length = Mp.length * 3) (hN1 : ∀ u ∈ flatR Mp, u.oneCell' = true) (hNc : ∀ w1, Below w.heap.size w w1 → ∀ (j : Nat) (u : Value), (flatR Mp)[j]? = some u → w1.cell? (ad.add j) = some u) :
    Calls Tryd.prog 7 #[.slice p nl c, .slice (some ad) Mp.length c2, .slice p3 n3 c3] w fun e w' => e = .returned (.bool true) ∧ Below w.heap.size w w' := by
  obtain ⟨i0, hi, hz0, hz1, hz2⟩ := info_parts info_req
  rw [hN] at hBo
  have HCo : Hid (Calls Tryd.prog 21 #[.slice p nl c] w fun e w' => ∃ u, e = .returned u ∧ OwnR w w.heap.size w' u l ∧ Below w.heap.size w w') := hCo
  have HM1 : Hid (∀ w1, Below w.heap.size w w1 → Calls Tryd.prog 8 #[.slice p nl c, .slice p3 n3 c3] w1 fun en w' => en = .returned (.tuple #[.bool false, .int .i64 0]) ∧ Below w1.heap.size w1 w') := hM1
  have HM2 : Hid (∀ w1, Below w.heap.size w w1 → Calls Tryd.prog 8 #[.slice (some ad) Mp.length c2, .slice p3 n3 c3] w1 fun en w' => en = .returned (.tuple #[.bool false, .int .i64 0]) ∧ Below w1.heap.size w1 w') := hM2
  have HBo : Hid (∀ w2 bv, OwnR w w.heap.size w2 bv (l ++ m) → Below w.heap.size w w2 → (∃ q cc, bv = .slice q N cc) ∧ BM w2 bv (.slice p3 n3 c3) false 0 ∧ BR w w2 bv (.slice p3 n3 c3) false 0) := hBo
  have HS : Hid (∀ w1, Below w.heap.size w w1 → Calls Tryd.prog 20 #[] w1 fun e w' => e = .returned (.bool true) ∧ Below w1.heap.size w1 w') := hS
  clear hCo hM1 hM2 hBo hS hN
  have h8i : (N : Int) ≤ 8 := by omega
  clear h8
  have HNm : Hid (Mp.map (·.1) = m) := hNm
  have HNs : Hid (∀ p ∈ Mp, Strs w p.2 p.1.2.2) := hNs
  have HNl : Hid ((flatR Mp).length = Mp.length * 3) := hNl
  have HN1 : Hid (∀ u ∈ flatR Mp, u.oneCell' = true) := hN1
  have HNc : Hid (∀ w1, Below w.heap.size w w1 → ∀ (j : Nat) (u : Value), (flatR Mp)[j]? = some u → w1.cell? (ad.add j) = some u) := hNc
  clear hNm hNs hNl hN1 hNc
  go_enter Tryd.func7, Tryd.ntmps7
  go_wp2_with fail
  refine Calls.mono HCo.out ?_
  rintro e w1 ⟨u, rfl, hown, b1⟩
  have HB1 : Hid (Below w.heap.size w w1) := b1
  obtain ⟨Lp, hL, hSt, hO⟩ := hown
  have hLl : Lp.length = l.length := by rw [← hL, List.length_map]
  have hLe : Lp.length ≤ 1048576 := by omega
  have HO : Hid (w1.ownsRow w.heap.size 37 3 u Lp.length (flatR Lp)) := hO
  have HL : Hid (Lp.map (·.1) = l) := hL
  have HSt : Hid (∀ p ∈ Lp, Strs w p.2 p.1.2.2) := hSt
  have HN6 : Hid (∀ (j : Nat) (u : Value), (flatR Mp)[j]? = some u → w1.cell? (ad.add j) = some u) := HNc.out w1 HB1.out
  have h56 := HB1.out.size
  clear hL hSt hO b1 hLl
  go_wp2_with (at_builtin; refine wpList_append_own _ rfl _ _ 22 rfl w.heap.size 37 i0 (.agg #[.string ⟨#[]⟩, .int .i64 0, .slice none 0 0]) 3 48 Tryd.underlying22 hi hz0 hz1 hz2 rfl (by decide) _ _ _ rfl HO.out ad Mp.length c2 (flatR Mp) rfl HNl.out HN6.out HN1.out (by unfold maxLen; omega) (by omega) h56 ?_)
  intro v' w2 hown' hgrow _
  have HB2 : Hid (Below w.heap.size w w2) := HB1.out.grown hgrow h56 (fun b hb => (World.ownsRow.lt HO.out b hb).1)
  have hR : OwnR w w.heap.size w2 v' (l ++ m) := by
    refine ⟨Lp ++ Mp, by rw [List.map_append, HL.out, HNm.out], fun p hp => ?_, by rw [List.length_append, flatR_append]; exact hown'⟩
    rcases List.mem_append.1 hp with hp | hp
    · exact HSt.out p hp
    · exact HNs.out p hp
  obtain ⟨⟨q, cc, rfl⟩, hbm, hbr⟩ := HBo.out w2 v' hR HB2.out
  have HBM : Hid (BM w2 (.slice q N cc) (.slice p3 n3 c3) false 0) := hbm
  have HBR : Hid (BR w w2 (.slice q N cc) (.slice p3 n3 c3) false 0) := hbr
  clear hR hown' hgrow h56 hbm hbr HO HL HSt HN6 HNm HNs HNl HN1 HNc hi hz0 hz1 hz2 hLe hl1 hm1
  go_wp2_with fail
  refine Calls.mono (HM1.out _ HB2.out) ?_
  rintro e w3 ⟨rfl, b3⟩
  have HB3 : Hid (Below w.heap.size w w3) := HB2.out.trans (b3.mono HB2.out.size)
  have HC3 : Hid (Below w2.heap.size w2 w3) := b3
  clear b3
  go_wp2_with fail
  refine Calls.mono (HM2.out _ HB3.out) ?_
  rintro e w4 ⟨rfl, b4⟩
  have HB4 : Hid (Below w.heap.size w w4) := HB3.out.trans (b4.mono HB3.out.size)
  have HC4 : Hid (Below w2.heap.size w2 w4) := HC3.out.trans (b4.mono HC3.out.size)
  clear b4
  go_wp2_with fail
  refine Calls.mono (HBM.out _ HC4.out) ?_
  rintro e w5 ⟨rfl, b5⟩
  have HB5 : Hid (Below w.heap.size w w5) := HB4.out.trans (b5.mono HB4.out.size)
  have HC5 : Hid (Below w2.heap.size w2 w5) := HC4.out.trans (b5.mono HC4.out.size)
  clear b5
  go_wp2_with fail
  refine Calls.mono (HS.out _ HB5.out) ?_
  rintro e w6 ⟨rfl, b6⟩
  have HB6 : Hid (Below w.heap.size w w6) := HB5.out.trans (b6.mono HB5.out.size)
  have HC6 : Hid (Below w2.heap.size w2 w6) := HC5.out.trans (b6.mono HC5.out.size)
  clear b6
  go_wp2_with fail
  refine Calls.mono (HBR.out _ HC6.out) ?_
  rintro e w7 ⟨rfl, b7, hm7⟩
  have HB7 : Hid (Below w.heap.size w w7) := b7
  have HM7 : Hid (Calls Tryd.prog 8 #[.slice q N cc, .slice p3 n3 c3] w7 fun en w'' => en = .returned (.tuple #[.bool false, .int .i64 0]) ∧ Below w7.heap.size w7 w'') := hm7
  clear b7 hm7
  go_wp2_with fail
  refine Calls.mono HM7.out ?_
  rintro e w8 ⟨rfl, b8⟩
  have HB8 : Hid (Below w.heap.size w w8) := HB7.out.trans (b8.mono HB7.out.size)
  clear b8
  go_wp2_with fail
  go_ret
  exact ⟨rfl, HB8.out⟩
end Go.Proofs.YtglmffplnglkdaaDoor
