/- The walk of the law QueryAnd over this translation, put together. -/
import Derived.Test.YtglmffplnglkdaaDoorQAndN
import Derived.Test.YtglmffplnglkdaaDoorQAndS
namespace Go.Proofs.YtglmffplnglkdaaDoor
open Go.RowKit
set_option linter.unusedVariables false
set_option linter.unusedSimpArgs false
theorem and_armn (p : Option Addr) (nl c : Nat) (p3 : Option Addr) (n3 c3 : Nat) (l m : List Rq) (ls : List Lb) (w : World) (hCo : Calls Tryd.prog 21 #[.slice p nl c] w fun e w' => ∃ u, e = .returned u ∧ OwnR w w.heap.size w' u l ∧ Below w.heap.size w w') (hM1 : ∀ w1, Below w.heap.size w w1 → Calls Tryd.prog 8 #[.slice p nl c, .slice p3 n3 c3] w1 fun en w' => en = .returned (.tuple #[.bool (matchE l ls).1, .int .i64 (matchE l ls).2]) ∧ Below w1.heap.size w1 w') (hM2 : ∀ w1, Below w.heap.size w w1 → Calls Tryd.prog 8 #[.slice none 0 0, .slice p3 n3 c3] w1 fun en w' => en = .returned (.tuple #[.bool (matchE m ls).1, .int .i64 (matchE m ls).2]) ∧ Below w1.heap.size w1 w') (hBo : ∀ w2 bv, OwnR w w.heap.size w2 bv (l ++ m) → Below w.heap.size w w2 → (∃ q cc, bv = .slice q (l ++ m).length cc) ∧ BM w2 bv (.slice p3 n3 c3) (matchE (l ++ m) ls).1 (matchE (l ++ m) ls).2 ∧ BR w w2 bv (.slice p3 n3 c3) (matchE (l ++ m).reverse ls).1 (matchE (l ++ m).reverse ls).2) (hS : ∀ w1, Below w.heap.size w w1 → Calls Tryd.prog 20 #[] w1 fun e w' => e = .returned (.bool true) ∧ Below w1.heap.size w1 w') (hm0 : m = []) :
    Calls Tryd.prog 7 #[.slice p nl c, .slice none 0 0, .slice p3 n3 c3] w fun e w' => e = .returned (.bool true) ∧ Below w.heap.size w w' := by
  by_cases he : (matchE l ls).2 = 0
  · by_cases hf : (matchE m ls).2 = 0
    · by_cases h8 : (l ++ m).length ≤ 8
      · obtain ⟨g1, g2⟩ := and_ok l m ls he hf h8
        rw [g1, g2] at hBo
        rw [he] at hM1
        rw [hf] at hM2
        cases hx : (matchE l ls).1 <;> cases hy : (matchE m ls).1 <;> rw [hx] at hM1 hBo <;> rw [hy] at hM2 hBo
        · exact and_dffn p nl c p3 n3 c3 l m _ rfl h8 w hCo hM1 hM2 hBo hS hm0
        · exact and_dftn p nl c p3 n3 c3 l m _ rfl h8 w hCo hM1 hM2 hBo hS hm0
        · exact and_dtfn p nl c p3 n3 c3 l m _ rfl h8 w hCo hM1 hM2 hBo hS hm0
        · exact and_dttn p nl c p3 n3 c3 l m _ rfl h8 w hCo hM1 hM2 hBo hS hm0
      · obtain ⟨g1, g2⟩ := and_bad l m ls (Or.inr (Or.inr (by omega)))
        rw [g2] at hBo
        rw [he] at hM1
        rw [hf] at hM2
        exact and_cn p nl c p3 n3 c3 l m _ rfl _ _ _ _ _ (by omega) g1 w hCo hM1 hM2 hBo hS hm0
    · obtain ⟨g1, g2⟩ := and_bad l m ls (Or.inr (Or.inl hf))
      rw [g2] at hBo
      rw [he] at hM1
      exact and_bn p nl c p3 n3 c3 l m _ rfl _ _ _ _ _ _ hf g1 w hCo hM1 hM2 hBo hS hm0
  · obtain ⟨g1, g2⟩ := and_bad l m ls (Or.inl he)
    rw [g2] at hBo
    exact and_an p nl c p3 n3 c3 l m _ rfl _ _ _ _ _ _ _ he g1 w hCo hM1 hM2 hBo hS hm0
theorem and_arms (p : Option Addr) (nl c : Nat) (p3 : Option Addr) (n3 c3 : Nat) (l m : List Rq) (ls : List Lb) (ad : Addr) (c2 : Nat) (Mp : List (Rq × Value)) (w : World) (hCo : Calls Tryd.prog 21 #[.slice p nl c] w fun e w' => ∃ u, e = .returned u ∧ OwnR w w.heap.size w' u l ∧ Below w.heap.size w w') (hM1 : ∀ w1, Below w.heap.size w w1 → Calls Tryd.prog 8 #[.slice p nl c, .slice p3 n3 c3] w1 fun en w' => en = .returned (.tuple #[.bool (matchE l ls).1, .int .i64 (matchE l ls).2]) ∧ Below w1.heap.size w1 w') (hM2 : ∀ w1, Below w.heap.size w w1 → Calls Tryd.prog 8 #[.slice (some ad) Mp.length c2, .slice p3 n3 c3] w1 fun en w' => en = .returned (.tuple #[.bool (matchE m ls).1, .int .i64 (matchE m ls).2]) ∧ Below w1.heap.size w1 w') (hBo : ∀ w2 bv, OwnR w w.heap.size w2 bv (l ++ m) → Below w.heap.size w w2 → (∃ q cc, bv = .slice q (l ++ m).length cc) ∧ BM w2 bv (.slice p3 n3 c3) (matchE (l ++ m) ls).1 (matchE (l ++ m) ls).2 ∧ BR w w2 bv (.slice p3 n3 c3) (matchE (l ++ m).reverse ls).1 (matchE (l ++ m).reverse ls).2) (hS : ∀ w1, Below w.heap.size w w1 → Calls Tryd.prog 20 #[] w1 fun e w' => e = .returned (.bool true) ∧ Below w1.heap.size w1 w') (hl1 : l.length ≤ 1048576) (hm1 : Mp.length ≤ 1048576) (hNm : Mp.map (·.1) = m) (hNs : ∀ p ∈ Mp, Strs w p.2 p.1.2.2) (hNl : (flatR Mp).length = Mp.length * 3) (hN1 : ∀ u ∈ flatR Mp, u.oneCell' = true) (hNc : ∀ w1, Below w.heap.size w w1 → ∀ (j : Nat) (u : Value), (flatR Mp)[j]? = some u → w1.cell? (ad.add j) = some u) :
    Calls Tryd.prog 7 #[.slice p nl c, .slice (some ad) Mp.length c2, .slice p3 n3 c3] w fun e w' => e = .returned (.bool true) ∧ Below w.heap.size w w' := by
  by_cases he : (matchE l ls).2 = 0
  · by_cases hf : (matchE m ls).2 = 0
    · by_cases h8 : (l ++ m).length ≤ 8
      · obtain ⟨g1, g2⟩ := and_ok l m ls he hf h8
        rw [g1, g2] at hBo
        rw [he] at hM1
        rw [hf] at hM2
        cases hx : (matchE l ls).1 <;> cases hy : (matchE m ls).1 <;> rw [hx] at hM1 hBo <;> rw [hy] at hM2 hBo
        · exact and_dffs p nl c p3 n3 c3 l m _ rfl h8 ad c2 Mp w hCo hM1 hM2 hBo hS hl1 hm1 hNm hNs hNl hN1 hNc
        · exact and_dfts p nl c p3 n3 c3 l m _ rfl h8 ad c2 Mp w hCo hM1 hM2 hBo hS hl1 hm1 hNm hNs hNl hN1 hNc
        · exact and_dtfs p nl c p3 n3 c3 l m _ rfl h8 ad c2 Mp w hCo hM1 hM2 hBo hS hl1 hm1 hNm hNs hNl hN1 hNc
        · exact and_dtts p nl c p3 n3 c3 l m _ rfl h8 ad c2 Mp w hCo hM1 hM2 hBo hS hl1 hm1 hNm hNs hNl hN1 hNc
      · obtain ⟨g1, g2⟩ := and_bad l m ls (Or.inr (Or.inr (by omega)))
        rw [g2] at hBo
        rw [he] at hM1
        rw [hf] at hM2
        exact and_cs p nl c p3 n3 c3 l m _ rfl _ _ _ _ _ (by omega) g1 ad c2 Mp w hCo hM1 hM2 hBo hS hl1 hm1 hNm hNs hNl hN1 hNc
    · obtain ⟨g1, g2⟩ := and_bad l m ls (Or.inr (Or.inl hf))
      rw [g2] at hBo
      rw [he] at hM1
      exact and_bs p nl c p3 n3 c3 l m _ rfl _ _ _ _ _ _ hf g1 ad c2 Mp w hCo hM1 hM2 hBo hS hl1 hm1 hNm hNs hNl hN1 hNc
  · obtain ⟨g1, g2⟩ := and_bad l m ls (Or.inl he)
    rw [g2] at hBo
    exact and_as p nl c p3 n3 c3 l m _ rfl _ _ _ _ _ _ _ he g1 ad c2 Mp w hCo hM1 hM2 hBo hS hl1 hm1 hNm hNs hNl hN1 hNc
theorem and_walk (v u vl : Value) (l m : List Rq) (ls : List Lb) (w : World) (hv : Reqs w v l) (hfl : ∀ r ∈ l, Fit r) (hgv : GoodV v) (hu : Reqs w u m) (hfm : ∀ r ∈ m, Fit r) (hgu : GoodV u) (hl : Labs w vl ls) (hfa : FitL ls) (hl1 : l.length ≤ 1048576) (hm1 : m.length ≤ 1048576) (hR : Room w) :
    Calls Tryd.prog 7 #[v, u, vl] w fun e w' => e = .returned (.bool true) ∧ Below w.heap.size w w' := by
  have hS : ∀ w1, Below w.heap.size w w1 → Calls Tryd.prog 20 #[] w1 fun e w' => e = .returned (.bool true) ∧ Below w1.heap.size w1 w' := fun w1 hb => strange_any w1 (hR.below hb)
  have hCo := copy_any v l w hv hgv (by omega)
  have hM1 := fun w1 hb => match_any v vl l ls w1 (hv.below hb) hfl (hl.below hb) hfa (hR.below hb)
  have hM2 := fun w1 hb => match_any u vl m ls w1 (hu.below hb) hfm (hl.below hb) hfa (hR.below hb)
  have hBo := fun w2 bv hO hb => both_of w w2 bv vl (l ++ m) ls hO hb (fun r hr => (List.mem_append.1 hr).elim (hfl r) (hfm r)) hl hfa hR
  obtain ⟨Np, hNm, hNs, hNl, hN1, hNc⟩ := reqs_part hu hgu
  have hNpl : Np.length = m.length := by rw [← hNm, List.length_map]
  obtain ⟨p, c, rfl, _, _⟩ := hv.open
  obtain ⟨p3, c3, rfl, _, _⟩ := hl.open
  rcases hNc with ⟨rfl, hn0⟩ | ⟨ad, c2, rfl, hlt, hNc⟩
  · exact and_armn p _ c p3 _ c3 l m ls w hCo hM1 hM2 hBo hS (List.eq_nil_of_length_eq_zero hn0)
  · rw [← hNpl] at hM2 hNl hm1 ⊢
    refine and_arms p _ c p3 _ c3 l m ls ad c2 Np w hCo hM1 hM2 hBo hS hl1 hm1 hNm hNs hNl hN1 (fun w1 hb j z hj => ?_)
    have hj2 : j < (flatR Np).length := (List.getElem?_eq_some_iff.1 hj).1
    rw [hb.cell (p := ad.add j) (by
      rw [add_block]
      exact hlt (by omega))]
    exact hNc j z hj
end Go.Proofs.YtglmffplnglkdaaDoor
