/- The walk of the law QueryRow over this translation, put together. -/
import Derived.Test.YtglmffplnglkdabDoorQRowA
import Derived.Test.YtglmffplnglkdabDoorQRowB
import Derived.Test.YtglmffplnglkdabDoorQRowC
namespace Go.Proofs.YtglmffplnglkdabDoor
open Go.RowKit
set_option linter.unusedVariables false
set_option linter.unusedSimpArgs false
theorem row_nil (p : Option Addr) (c : Nat) (p2 : Option Addr) (c2 : Nat) (l m n : List Rq) (w : World) (h0 : chkI l = 0) (i1 : IS w (.slice p l.length c) (.slice p2 m.length c2) (impE l m)) (i2 : IS w (.slice p2 m.length c2) (.slice none 0 0) (impE m n)) (i3 : IS w (.slice p l.length c) (.slice none 0 0) (impE l n)) (i4 : IS w (.slice p l.length c) (.slice p l.length c) (impE l l))
    (hS : ∀ w1, Below w.heap.size w w1 → Calls Tryd.prog 7 #[] w1 fun e w' => e = .returned (.bool true) ∧ Below w1.heap.size w1 w')
    (hCo : ∀ w1, Below w.heap.size w w1 → Calls Tryd.prog 12 #[.slice p l.length c] w1 fun e w' => ∃ u, e = .returned u ∧ OwnR w1 w1.heap.size w' u l ∧ Below w1.heap.size w1 w')
    (hFin : ∀ w0 w1 v', Below w.heap.size w w0 → Below w0.heap.size w0 w1 → OwnR w0 w0.heap.size w1 v' (l ++ n) → Calls Tryd.prog 10 #[v', .slice p l.length c] w1 fun e w' => (∃ qp qn qc, e = .returned (.tuple #[.bool (impE (l ++ n) l).1, .slice qp qn qc, .int .i64 (impE (l ++ n) l).2])) ∧ Below w1.heap.size w1 w')
    (hn0 : n = []) :
    Calls Tryd.prog 6 #[.slice p l.length c, .slice p2 m.length c2, .slice none 0 0] w fun e w' => e = .returned (.bool true) ∧ Below w.heap.size w w' := by
  have hi4 : IS w (.slice p l.length c) (.slice p l.length c) (true, 0) := by rw [← impE_self h0]; exact i4
  by_cases hm : chkI m = 0
  · by_cases hn : chkI n = 0
    · have hi3 : IS w (.slice p l.length c) (.slice none 0 0) ((impliesP l n).1, 0) := by rw [← impE_ok h0 hn]; exact i3
      have j1 : IS w (.slice p l.length c) (.slice p2 m.length c2) ((impliesP l m).1, 0) := by rw [← impE_ok h0 hm]; exact i1
      have j2 : IS w (.slice p2 m.length c2) (.slice none 0 0) ((impliesP m n).1, 0) := by rw [← impE_ok hm hn]; exact i2
      cases hx : (impliesP l m).1 with
      | false =>
        have hi1 : IS w (.slice p l.length c) (.slice p2 m.length c2) (false, 0) := by rw [hx] at j1; exact j1
        have hi2 := j2
        rcases impE_both (n := n) h0 with hbad | hgood
        · exact row_5anb p _ c p2 _ c2 (impliesP m n).1 (impliesP l n).1 l n (impE (l ++ n) l).1 (impE (l ++ n) l).2 hbad w hi1 hi2 hi3 hi4 hS hCo hFin hn0
        · exact row_5ang p _ c p2 _ c2 (impliesP m n).1 (impliesP l n).1 l n w hi1 hi2 hi3 hi4 hS hCo (by rw [hgood] at hFin; exact hFin) hn0
      | true =>
        have hi1 : IS w (.slice p l.length c) (.slice p2 m.length c2) (true, 0) := by rw [hx] at j1; exact j1
        cases hy : (impliesP m n).1 with
        | false =>
          have hi2 : IS w (.slice p2 m.length c2) (.slice none 0 0) (false, 0) := by rw [hy] at j2; exact j2
          rcases impE_both (n := n) h0 with hbad | hgood
          · exact row_5bnb p _ c p2 _ c2 (impliesP l n).1 l n (impE (l ++ n) l).1 (impE (l ++ n) l).2 hbad w hi1 hi2 hi3 hi4 hS hCo hFin hn0
          · exact row_5bng p _ c p2 _ c2 (impliesP l n).1 l n w hi1 hi2 hi3 hi4 hS hCo (by rw [hgood] at hFin; exact hFin) hn0
        | true =>
          have hi2 : IS w (.slice p2 m.length c2) (.slice none 0 0) (true, 0) := by rw [hy] at j2; exact j2
          have hz : (impliesP l n).1 = true := (implies_iff h0 hn).2 (fun ls h => (implies_iff hm hn).1 hy ls ((implies_iff h0 hm).1 hx ls h))
          have hi3 : IS w (.slice p l.length c) (.slice none 0 0) (true, 0) := by rw [hz] at hi3; exact hi3
          rcases impE_both (n := n) h0 with hbad | hgood
          · exact row_5cnb p _ c p2 _ c2  l n (impE (l ++ n) l).1 (impE (l ++ n) l).2 hbad w hi1 hi2 hi3 hi4 hS hCo hFin hn0
          · exact row_5cng p _ c p2 _ c2  l n w hi1 hi2 hi3 hi4 hS hCo (by rw [hgood] at hFin; exact hFin) hn0
    · have hi1 : IS w (.slice p l.length c) (.slice p2 m.length c2) ((impliesP l m).1, 0) := by rw [← impE_ok h0 hm]; exact i1
      have hi2 : IS w (.slice p2 m.length c2) (.slice none 0 0) (false, chkI n) := by rw [← impE_bad2 hm hn]; exact i2
      have hi3 : IS w (.slice p l.length c) (.slice none 0 0) (false, chkI n) := by rw [← impE_bad2 h0 hn]; exact i3
      rcases impE_both (n := n) h0 with hbad | hgood
      · exact row_4nb p _ c p2 _ c2 (chkI n) (chkI n) (impliesP l m).1 false hn hn l n (impE (l ++ n) l).1 (impE (l ++ n) l).2 hbad w hi1 hi2 hi3 hi4 hS hCo hFin hn0
      · exact row_4ng p _ c p2 _ c2 (chkI n) (chkI n) (impliesP l m).1 false hn hn l n w hi1 hi2 hi3 hi4 hS hCo (by rw [hgood] at hFin; exact hFin) hn0
  · have hi1 : IS w (.slice p l.length c) (.slice p2 m.length c2) (false, chkI m) := by rw [← impE_bad2 h0 hm]; exact i1
    have hi2 : IS w (.slice p2 m.length c2) (.slice none 0 0) (false, chkI m) := by rw [← impE_bad hm]; exact i2
    by_cases hn : chkI n = 0
    · have hi3 : IS w (.slice p l.length c) (.slice none 0 0) ((impliesP l n).1, 0) := by rw [← impE_ok h0 hn]; exact i3
      rcases impE_both (n := n) h0 with hbad | hgood
      · exact row_3nb p _ c p2 _ c2 (chkI m) (chkI m) false false (impliesP l n).1 hm l n (impE (l ++ n) l).1 (impE (l ++ n) l).2 hbad w hi1 hi2 hi3 hi4 hS hCo hFin hn0
      · exact row_3ng p _ c p2 _ c2 (chkI m) (chkI m) false false (impliesP l n).1 hm l n w hi1 hi2 hi3 hi4 hS hCo (by rw [hgood] at hFin; exact hFin) hn0
    · have hi3 : IS w (.slice p l.length c) (.slice none 0 0) (false, chkI n) := by rw [← impE_bad2 h0 hn]; exact i3
      rcases impE_both (n := n) h0 with hbad | hgood
      · exact row_2nb p _ c p2 _ c2 (chkI m) (chkI m) (chkI n) false false hm hn l n (impE (l ++ n) l).1 (impE (l ++ n) l).2 hbad w hi1 hi2 hi3 hi4 hS hCo hFin hn0
      · exact row_2ng p _ c p2 _ c2 (chkI m) (chkI m) (chkI n) false false hm hn l n w hi1 hi2 hi3 hi4 hS hCo (by rw [hgood] at hFin; exact hFin) hn0
theorem row_some (p : Option Addr) (c : Nat) (p2 : Option Addr) (c2 : Nat) (ad : Addr) (c3 : Nat) (Np : List (Rq × Value)) (l m n : List Rq) (w : World) (h0 : chkI l = 0) (i1 : IS w (.slice p l.length c) (.slice p2 m.length c2) (impE l m)) (i2 : IS w (.slice p2 m.length c2) (.slice (some ad) Np.length c3) (impE m n)) (i3 : IS w (.slice p l.length c) (.slice (some ad) Np.length c3) (impE l n)) (i4 : IS w (.slice p l.length c) (.slice p l.length c) (impE l l))
    (hS : ∀ w1, Below w.heap.size w w1 → Calls Tryd.prog 7 #[] w1 fun e w' => e = .returned (.bool true) ∧ Below w1.heap.size w1 w')
    (hCo : ∀ w1, Below w.heap.size w w1 → Calls Tryd.prog 12 #[.slice p l.length c] w1 fun e w' => ∃ u, e = .returned u ∧ OwnR w1 w1.heap.size w' u l ∧ Below w1.heap.size w1 w')
    (hFin : ∀ w0 w1 v', Below w.heap.size w w0 → Below w0.heap.size w0 w1 → OwnR w0 w0.heap.size w1 v' (l ++ n) → Calls Tryd.prog 10 #[v', .slice p l.length c] w1 fun e w' => (∃ qp qn qc, e = .returned (.tuple #[.bool (impE (l ++ n) l).1, .slice qp qn qc, .int .i64 (impE (l ++ n) l).2])) ∧ Below w1.heap.size w1 w')
    (hl8 : l.length ≤ 8) (hn48 : Np.length * 48 ≤ 140737488351232) (hNm : Np.map (·.1) = n) (hNs : ∀ p ∈ Np, Strs w p.2 p.1.2.2) (hNl : (flatR Np).length = Np.length * 3) (hN1 : ∀ u ∈ flatR Np, u.oneCell' = true) (hNc : ∀ w1, Below w.heap.size w w1 → ∀ (j : Nat) (u : Value), (flatR Np)[j]? = some u → w1.cell? (ad.add j) = some u) :
    Calls Tryd.prog 6 #[.slice p l.length c, .slice p2 m.length c2, .slice (some ad) Np.length c3] w fun e w' => e = .returned (.bool true) ∧ Below w.heap.size w w' := by
  have hi4 : IS w (.slice p l.length c) (.slice p l.length c) (true, 0) := by rw [← impE_self h0]; exact i4
  by_cases hm : chkI m = 0
  · by_cases hn : chkI n = 0
    · have hi3 : IS w (.slice p l.length c) (.slice (some ad) Np.length c3) ((impliesP l n).1, 0) := by rw [← impE_ok h0 hn]; exact i3
      have j1 : IS w (.slice p l.length c) (.slice p2 m.length c2) ((impliesP l m).1, 0) := by rw [← impE_ok h0 hm]; exact i1
      have j2 : IS w (.slice p2 m.length c2) (.slice (some ad) Np.length c3) ((impliesP m n).1, 0) := by rw [← impE_ok hm hn]; exact i2
      cases hx : (impliesP l m).1 with
      | false =>
        have hi1 : IS w (.slice p l.length c) (.slice p2 m.length c2) (false, 0) := by rw [hx] at j1; exact j1
        have hi2 := j2
        rcases impE_both (n := n) h0 with hbad | hgood
        · exact row_5asb p _ c p2 _ c2 (impliesP m n).1 (impliesP l n).1 l n (impE (l ++ n) l).1 (impE (l ++ n) l).2 hbad ad c3 Np w hi1 hi2 hi3 hi4 hS hCo hFin hl8 hn48 hNm hNs hNl hN1 hNc
        · exact row_5asg p _ c p2 _ c2 (impliesP m n).1 (impliesP l n).1 l n ad c3 Np w hi1 hi2 hi3 hi4 hS hCo (by rw [hgood] at hFin; exact hFin) hl8 hn48 hNm hNs hNl hN1 hNc
      | true =>
        have hi1 : IS w (.slice p l.length c) (.slice p2 m.length c2) (true, 0) := by rw [hx] at j1; exact j1
        cases hy : (impliesP m n).1 with
        | false =>
          have hi2 : IS w (.slice p2 m.length c2) (.slice (some ad) Np.length c3) (false, 0) := by rw [hy] at j2; exact j2
          rcases impE_both (n := n) h0 with hbad | hgood
          · exact row_5bsb p _ c p2 _ c2 (impliesP l n).1 l n (impE (l ++ n) l).1 (impE (l ++ n) l).2 hbad ad c3 Np w hi1 hi2 hi3 hi4 hS hCo hFin hl8 hn48 hNm hNs hNl hN1 hNc
          · exact row_5bsg p _ c p2 _ c2 (impliesP l n).1 l n ad c3 Np w hi1 hi2 hi3 hi4 hS hCo (by rw [hgood] at hFin; exact hFin) hl8 hn48 hNm hNs hNl hN1 hNc
        | true =>
          have hi2 : IS w (.slice p2 m.length c2) (.slice (some ad) Np.length c3) (true, 0) := by rw [hy] at j2; exact j2
          have hz : (impliesP l n).1 = true := (implies_iff h0 hn).2 (fun ls h => (implies_iff hm hn).1 hy ls ((implies_iff h0 hm).1 hx ls h))
          have hi3 : IS w (.slice p l.length c) (.slice (some ad) Np.length c3) (true, 0) := by rw [hz] at hi3; exact hi3
          rcases impE_both (n := n) h0 with hbad | hgood
          · exact row_5csb p _ c p2 _ c2  l n (impE (l ++ n) l).1 (impE (l ++ n) l).2 hbad ad c3 Np w hi1 hi2 hi3 hi4 hS hCo hFin hl8 hn48 hNm hNs hNl hN1 hNc
          · exact row_5csg p _ c p2 _ c2  l n ad c3 Np w hi1 hi2 hi3 hi4 hS hCo (by rw [hgood] at hFin; exact hFin) hl8 hn48 hNm hNs hNl hN1 hNc
    · have hi1 : IS w (.slice p l.length c) (.slice p2 m.length c2) ((impliesP l m).1, 0) := by rw [← impE_ok h0 hm]; exact i1
      have hi2 : IS w (.slice p2 m.length c2) (.slice (some ad) Np.length c3) (false, chkI n) := by rw [← impE_bad2 hm hn]; exact i2
      have hi3 : IS w (.slice p l.length c) (.slice (some ad) Np.length c3) (false, chkI n) := by rw [← impE_bad2 h0 hn]; exact i3
      rcases impE_both (n := n) h0 with hbad | hgood
      · exact row_4sb p _ c p2 _ c2 (chkI n) (chkI n) (impliesP l m).1 false hn hn l n (impE (l ++ n) l).1 (impE (l ++ n) l).2 hbad ad c3 Np w hi1 hi2 hi3 hi4 hS hCo hFin hl8 hn48 hNm hNs hNl hN1 hNc
      · exact row_4sg p _ c p2 _ c2 (chkI n) (chkI n) (impliesP l m).1 false hn hn l n ad c3 Np w hi1 hi2 hi3 hi4 hS hCo (by rw [hgood] at hFin; exact hFin) hl8 hn48 hNm hNs hNl hN1 hNc
  · have hi1 : IS w (.slice p l.length c) (.slice p2 m.length c2) (false, chkI m) := by rw [← impE_bad2 h0 hm]; exact i1
    have hi2 : IS w (.slice p2 m.length c2) (.slice (some ad) Np.length c3) (false, chkI m) := by rw [← impE_bad hm]; exact i2
    by_cases hn : chkI n = 0
    · have hi3 : IS w (.slice p l.length c) (.slice (some ad) Np.length c3) ((impliesP l n).1, 0) := by rw [← impE_ok h0 hn]; exact i3
      rcases impE_both (n := n) h0 with hbad | hgood
      · exact row_3sb p _ c p2 _ c2 (chkI m) (chkI m) false false (impliesP l n).1 hm l n (impE (l ++ n) l).1 (impE (l ++ n) l).2 hbad ad c3 Np w hi1 hi2 hi3 hi4 hS hCo hFin hl8 hn48 hNm hNs hNl hN1 hNc
      · exact row_3sg p _ c p2 _ c2 (chkI m) (chkI m) false false (impliesP l n).1 hm l n ad c3 Np w hi1 hi2 hi3 hi4 hS hCo (by rw [hgood] at hFin; exact hFin) hl8 hn48 hNm hNs hNl hN1 hNc
    · have hi3 : IS w (.slice p l.length c) (.slice (some ad) Np.length c3) (false, chkI n) := by rw [← impE_bad2 h0 hn]; exact i3
      rcases impE_both (n := n) h0 with hbad | hgood
      · exact row_2sb p _ c p2 _ c2 (chkI m) (chkI m) (chkI n) false false hm hn l n (impE (l ++ n) l).1 (impE (l ++ n) l).2 hbad ad c3 Np w hi1 hi2 hi3 hi4 hS hCo hFin hl8 hn48 hNm hNs hNl hN1 hNc
      · exact row_2sg p _ c p2 _ c2 (chkI m) (chkI m) (chkI n) false false hm hn l n ad c3 Np w hi1 hi2 hi3 hi4 hS hCo (by rw [hgood] at hFin; exact hFin) hl8 hn48 hNm hNs hNl hN1 hNc
theorem row_walk (v u x : Value) (l m n : List Rq) (w : World) (hv : Reqs w v l) (hfl : ∀ r ∈ l, Fit r) (hgv : GoodV v) (hu : Reqs w u m) (hfm : ∀ r ∈ m, Fit r) (hgu : GoodV u) (hx : Reqs w x n) (hfn : ∀ r ∈ n, Fit r) (hgx : GoodV x) (hn48 : n.length * 48 ≤ 140737488351232) (hR : Room w) :
    Calls Tryd.prog 6 #[v, u, x] w fun e w' => e = .returned (.bool true) ∧ Below w.heap.size w w' := by
  have hS : ∀ w1, Below w.heap.size w w1 → Calls Tryd.prog 7 #[] w1 fun e w' => e = .returned (.bool true) ∧ Below w1.heap.size w1 w' := fun w1 hb => strange_any w1 (hR.below hb)
  have i1 := is_of w v u l m hv hgv hu hfl hfm hR
  have i2 := is_of w u x m n hu hgu hx hfm hfn hR
  have i3 := is_of w v x l n hv hgv hx hfl hfn hR
  have i4 := is_of w v v l l hv hgv hv hfl hfl hR
  by_cases h0 : chkI l = 0
  · have hl8 := (chk_ok.1 h0).1
    have hCo : ∀ w1, Below w.heap.size w w1 → Calls Tryd.prog 12 #[v] w1 fun e w' => ∃ u, e = .returned u ∧ OwnR w1 w1.heap.size w' u l ∧ Below w1.heap.size w1 w' := fun w1 hb => copy_any v l w1 (hv.below hb) hgv (by omega)
    have hFin : ∀ w0 w1 v', Below w.heap.size w w0 → Below w0.heap.size w0 w1 → OwnR w0 w0.heap.size w1 v' (l ++ n) → Calls Tryd.prog 10 #[v', v] w1 fun e w' => (∃ qp qn qc, e = .returned (.tuple #[.bool (impE (l ++ n) l).1, .slice qp qn qc, .int .i64 (impE (l ++ n) l).2])) ∧ Below w1.heap.size w1 w' := by
      intro w0 w1 v' hb hb2 ho
      have hbw := hb.trans (hb2.mono hb.size)
      refine (implies_any v' v (l ++ n) l w1 (ho.reqs hb2) ho.good (hv.below hbw) (fun r hr => ?_) hfl (hR.below hbw)).mono ?_
      · rcases List.mem_append.1 hr with hr | hr
        · exact hfl r hr
        · exact hfn r hr
      · rintro e w' ⟨yes, uu, er, rfl, hi, b⟩
        obtain ⟨h1, p, n, c, rfl⟩ := impE_of hi
        rw [← h1]
        exact ⟨⟨p, n, c, rfl⟩, b⟩
    obtain ⟨Np, hNm, hNs, hNl, hN1, hNc⟩ := reqs_part hx hgx
    have hNpl : Np.length = n.length := by rw [← hNm, List.length_map]
    obtain ⟨p, c, rfl, _, _⟩ := hv.open
    obtain ⟨p2, c2, rfl, _, _⟩ := hu.open
    rcases hNc with ⟨rfl, hn0⟩ | ⟨ad, c3, rfl, hlt, hNc⟩
    · exact row_nil p c p2 c2 l m n w h0 i1 i2 i3 i4 hS hCo hFin (List.eq_nil_of_length_eq_zero hn0)
    · rw [← hNpl] at i2 i3 hNl hn48 ⊢
      refine row_some p c p2 c2 ad c3 Np l m n w h0 i1 i2 i3 i4 hS hCo hFin hl8 hn48 hNm hNs hNl hN1 (fun w1 hb j z hj => ?_)
      have hj2 : j < (flatR Np).length := (List.getElem?_eq_some_iff.1 hj).1
      rw [hb.cell (p := ad.add j) (by
        rw [add_block]
        exact hlt (by omega))]
      exact hNc j z hj
  · obtain ⟨p, c, rfl, _, _⟩ := hv.open
    obtain ⟨p2, c2, rfl, _, _⟩ := hu.open
    obtain ⟨p3, c3, rfl, _, _⟩ := hx.open
    rw [impE_bad h0] at i1 i3 i4
    exact row_h p _ c p2 _ c2 p3 _ c3 (chkI l) (chkI l) (impE m n).2 (chkI l) (impE m n).1 h0 w i1 i2 i3 i4 hS
end Go.Proofs.YtglmffplnglkdabDoor
