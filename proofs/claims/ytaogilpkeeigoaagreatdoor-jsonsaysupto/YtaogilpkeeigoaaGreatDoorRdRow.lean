/- Contract of the reader's method over this translation that reads a row: parts with a sign between them, up to the sign that ends it. -/
import Derived.Test.YtaogilpkeeigoaaGreatDoorRdSkip
import Derived.Test.YtaogilpkeeigoaaGreatDoorRdBegin
namespace Go.Proofs.YtaogilpkeeigoaaGreatDoor
open Go.RowKit
set_option linter.unusedVariables false
set_option linter.unusedSimpArgs false
theorem skip_skip : ∀ r : Bs, skip (skip r) = skip r
  | [] => rfl
  | c :: r => by
    rw [skip]
    split
    · exact skip_skip r
    · rename_i h
      rw [skip, if_neg h]
theorem skipAt_skipAt (t : ByteArray) (p : Nat) (hp : p ≤ t.size) : skipAt t (skipAt t p) = skipAt t p := by
  have h1 := rest_skip t p hp
  have h2 := rest_skip t (skipAt t p) (skipAt_le t p)
  rw [h1, skip_skip, ← h1] at h2
  exact rest_inj (skipAt_le _ _) (skipAt_le _ _) h2
/-- What a function value does that reads one part of a row: s is what has been gathered. -/
def OneOK {σ : Type} (f : Nat) (cs : Array Value) (b : Nat) (t : ByteArray) (w0 : World) (one : σ → Nat → Bs → Except Nat (σ × Nat × Bs)) (Inv : σ → Nat → World → Prop) (EInv : World → Prop) : Prop :=
  ∀ s p k w, Inv s k w → G b w0 w → Rd b t p k w → p ≤ t.size → k ≤ 200 →
    Calls Tryz.prog f cs w fun e w' => G b w0 w' ∧
      ((∃ er : Nat, one s k (rest t p) = .error er ∧ er ≠ 0 ∧ er < 100 ∧ e = .returned (.int .i64 er) ∧ EInv w') ∨
        ∃ s' k' q, one s k (rest t p) = .ok (s', k', rest t q) ∧ p < q ∧ q ≤ t.size ∧ k' ≤ 200 ∧ e = .returned (.int .i64 0) ∧ Rd b t q k' w' ∧ Inv s' k' w')
def RowPost {σ : Type} (b : Nat) (t : ByteArray) (w0 : World) (r : Except Nat (σ × Nat × Bs)) (p : Nat) (Inv : σ → Nat → World → Prop) (EInv : World → Prop) (e : Ending) (w' : World) : Prop :=
  G b w0 w' ∧ ((∃ er : Nat, r = .error er ∧ er ≠ 0 ∧ er < 100 ∧ e = .returned (.int .i64 er) ∧ EInv w') ∨
    ∃ s' k' q, r = .ok (s', k', rest t q) ∧ p < q ∧ q ≤ t.size ∧ k' ≤ 200 ∧ e = .returned (.int .i64 0) ∧ Rd b t q k' w' ∧ Inv s' k' w')
theorem rowGo_succ {σ : Type} (z : UInt8) (one : σ → Nat → Bs → Except Nat (σ × Nat × Bs)) (f : Nat) (s : σ) (k : Nat) (r : Bs) : rowGo z one (f + 1) s k r =
    match one s k r with
    | .error e => .error e
    | .ok (s', k', r1) =>
      if hd (skip r1) = z then .ok (s', k', (skip r1).tail)
      else if hd (skip r1) = 44 then rowGo z one f s' k' (skip r1).tail
      else .error eSyntax := rfl
theorem err_bool {n : Nat} (h : n ≠ 0) : ((n : Int) != 0) = true := by
  rw [bne_iff_ne]
  omega
set_option maxRecDepth 100000 in
set_option maxHeartbeats 4000000 in
theorem row_list {σ : Type} (b : Nat) (t : ByteArray) (p k c0 c1 c2 : Nat) (z : UInt8) (s : σ) (w0 w : World) (one : σ → Nat → Bs → Except Nat (σ × Nat × Bs)) (Inv : σ → Nat → World → Prop) (EInv : World → Prop)
    (h : Rd b t p k w) (hlt : p < t.size) (ht : t.size ≤ 2000) (hk : k ≤ 200) (hi : Inv s k w) (hg : G b w0 w) (hz : z ≠ 0)
    (hone : OneOK 80 #[.pointer (some ⟨c0, 0, none⟩), .pointer (some ⟨c1, 0, none⟩), .pointer (some ⟨c2, 0, none⟩)] b t w0 one Inv EInv) (hkept : ∀ s k w w', Inv s k w → G b w w' → Inv s k w') (hE : ∀ s k w, Inv s k w → EInv w) :
    Calls Tryz.prog 79 #[.pointer (some ⟨b, 0, none⟩), .int .u8 z.toNat, .func (.func 80) #[] #[.pointer (some ⟨c0, 0, none⟩), .pointer (some ⟨c1, 0, none⟩), .pointer (some ⟨c2, 0, none⟩)]] w (RowPost b t w0 (row z one s k (rest t p)) p Inv EInv) := by
  have a1 := h.place
  have a2 := h.free 1
  have HR : Hid (Rd b t (p + 1) k (w.setCell ⟨b, 1, none⟩ (.int .i64 ((p : Int) + 1)))) := h.move (p + 1)
  have HG : Hid (G b w0 (w.setCell ⟨b, 1, none⟩ (.int .i64 ((p : Int) + 1)))) := hg.setCell 1 _
  have HI : Hid (Inv s k (w.setCell ⟨b, 1, none⟩ (.int .i64 ((p : Int) + 1)))) := hkept _ _ _ _ hi ((G.refl b w).setCell 1 _)
  have HK : Hid (∀ s k w w', Inv s k w → G b w w' → Inv s k w') := hkept
  have HE : Hid (∀ s k w, Inv s k w → EInv w) := hE
  have HO : Hid (OneOK 80 #[.pointer (some ⟨c0, 0, none⟩), .pointer (some ⟨c1, 0, none⟩), .pointer (some ⟨c2, 0, none⟩)] b t w0 one Inv EInv) := hone
  have HRow : Hid (row z one s k (rest t p) = if hd (skip (rest t (p + 1))) = z then .ok (s, k, (skip (rest t (p + 1))).tail) else rowGo z one ((rest t p).length + 1) s k (skip (rest t (p + 1)))) := by
    show row z one s k (rest t p) = _
    rw [row, rest_tail]
  have HTL : Hid (∀ q, q ≤ t.size → (skip (rest t q)).tail = rest t (skipAt t q + 1)) := fun q hq => by rw [← rest_skip t q hq, rest_tail]
  have HSL : Hid (∀ q, q ≤ t.size → hd (skip (rest t q)) ≠ 0 → skipAt t q < t.size) := fun q hq h => lt_of_hd (by rw [rest_skip t q hq]; exact h)
  clear h hi hg hkept hone hE
  generalize row z one s k (rest t p) = res at *
  go_enter Tryz.func79, Tryz.ntmps79
  go_wp2_with fail
  generalize w.setCell ⟨b, 1, none⟩ (.int .i64 ((p : Int) + 1)) = w1 at *
  clear a1 a2
  by_cases he : hd (skip (rest t (p + 1))) = z
  · have hs1 := HSL.out (p + 1) (by omega) (by rw [he]; exact hz)
    have hge := skipAt_ge t (p + 1) (by omega)
    have HEz : Hid (hd (skip (rest t (p + 1))) = z) := he
    clear he
    refine (takeSign_yes b t (p + 1) k z _ HR.out (by omega) ht HEz.out hz).mono ?_
    rintro e w2 ⟨rfl, g1, r1⟩
    have HG2 : Hid (G b w0 w2) := HG.out.trans g1
    have HR2 : Hid (Rd b t (skipAt t (p + 1) + 1) k w2) := r1
    have HI2 : Hid (Inv s k w2) := HK.out _ _ _ _ HI.out g1
    clear g1 r1
    go_wp2_with fail
    go_ret
    refine ⟨HG2.out, Or.inr ⟨s, k, skipAt t (p + 1) + 1, ?_, by omega, by omega, hk, rfl, HR2.out, HI2.out⟩⟩
    rw [HRow.out, if_pos HEz.out, HTL.out _ (by omega)]
  have HNE : Hid (hd (skip (rest t (p + 1))) ≠ z) := he
  have hge := skipAt_ge t (p + 1) (by omega)
  have hle := skipAt_le t (p + 1)
  have HSK : Hid (rest t (skipAt t (p + 1)) = skip (rest t (p + 1))) := rest_skip t (p + 1) (by omega)
  have hlen : (rest t p).length = t.size - p := rest_len t p
  clear he
  refine (takeSign_no b t (p + 1) k z _ HR.out (by omega) ht HNE.out).mono ?_
  rintro e w2 ⟨rfl, g1, r1⟩
  have HG2 : Hid (G b w0 w2) := HG.out.trans g1
  have HR2 : Hid (Rd b t (skipAt t (p + 1)) k w2) := r1
  have HI2 : Hid (Inv s k w2) := HK.out _ _ _ _ HI.out g1
  have HR0 : Hid (res = rowGo z one ((rest t p).length + 1) s k (rest t (skipAt t (p + 1)))) := by
    show res = _
    rw [HRow.out, if_neg HNE.out, HSK.out]
  clear g1 r1
  go_wp2_with fail
  go_loopw [7] (fun _ wr => ∃ s' k' q f, q ≤ t.size ∧ k' ≤ 200 ∧ p < q ∧ t.size - q < f ∧ res = rowGo z one f s' k' (rest t q) ∧ Inv s' k' wr ∧ Rd b t q k' wr ∧ G b w0 wr) (fun _ wr => t.size - placeOf b wr)
  case atStart => exact ⟨s, k, skipAt t (p + 1), (rest t p).length + 1, hle, hk, by omega, by omega, HR0.out, HI2.out, HR2.out, HG2.out⟩
  case round =>
    obtain ⟨s', k', q, f, hq, hk', hpq, hf, hres, hinv, hR, hG⟩ := hrel
    obtain ⟨f, rfl⟩ : ∃ f', f = f' + 1 := ⟨f - 1, by omega⟩
    have HRes : Hid (res = rowGo z one (f + 1) s' k' (rest t q)) := hres
    have HI' : Hid (Inv s' k' wr) := hinv
    have HR' : Hid (Rd b t q k' wr) := hR
    have HG' : Hid (G b w0 wr) := hG
    clear hres hinv hR hG
    go_wp2_with fail
    refine (HO.out s' q k' wr HI'.out HG'.out HR'.out hq hk').mono ?_
    rintro e w3 ⟨g3, h3⟩
    have HG3 : Hid (G b w0 w3) := g3
    clear g3
    rcases h3 with ⟨er, hone, her, hlt100, rfl, he3⟩ | ⟨s'', k'', q1, hone, hqq, hq1, hk2, rfl, r3, i3⟩
    · have hbe := err_bool her
      have HOne : Hid (one s' k' (rest t q) = .error er) := hone
      have HE3 : Hid (EInv w3) := he3
      clear hone he3
      go_wp2_with fail
      go_ret
      exact ⟨HG3.out, Or.inl ⟨er, by rw [HRes.out, rowGo_succ, HOne.out], her, hlt100, rfl, HE3.out⟩⟩
    have HOne : Hid (one s' k' (rest t q) = .ok (s'', k'', rest t q1)) := hone
    have HR3 : Hid (Rd b t q1 k'' w3) := r3
    have HI3 : Hid (Inv s'' k'' w3) := i3
    have hge1 := skipAt_ge t q1 hq1
    have hle1 := skipAt_le t q1
    have HRes2 : Hid (res = if hd (skip (rest t q1)) = z then .ok (s'', k'', rest t (skipAt t q1 + 1)) else if hd (skip (rest t q1)) = 44 then rowGo z one f s'' k'' (rest t (skipAt t q1 + 1)) else .error eSyntax) := by
      show res = _
      rw [HRes.out, rowGo_succ, HOne.out]
      simp only [HTL.out q1 hq1]
    clear hone r3 i3
    by_cases he : hd (skip (rest t q1)) = z
    · have hs1 := HSL.out q1 hq1 (by rw [he]; exact hz)
      have HEz : Hid (hd (skip (rest t q1)) = z) := he
      clear he
      go_wp2_with fail
      refine (takeSign_yes b t q1 k'' z _ HR3.out hq1 ht HEz.out hz).mono ?_
      rintro e w4 ⟨rfl, g1, r1⟩
      have HG4 : Hid (G b w0 w4) := HG3.out.trans g1
      have HR4 : Hid (Rd b t (skipAt t q1 + 1) k'' w4) := r1
      have HI4 : Hid (Inv s'' k'' w4) := HK.out _ _ _ _ HI3.out g1
      clear g1 r1
      go_wp2_with fail
      go_ret
      refine ⟨HG4.out, Or.inr ⟨s'', k'', skipAt t q1 + 1, ?_, by omega, by omega, hk2, rfl, HR4.out, HI4.out⟩⟩
      rw [HRes2.out, if_pos HEz.out]
    have HNE : Hid (hd (skip (rest t q1)) ≠ z) := he
    have HSS : Hid (skipAt t (skipAt t q1) = skipAt t q1) := skipAt_skipAt t q1 hq1
    have HSR : Hid (skip (rest t (skipAt t q1)) = skip (rest t q1)) := by
      show skip (rest t (skipAt t q1)) = skip (rest t q1)
      rw [rest_skip t q1 hq1, skip_skip]
    clear he
    go_wp2_with fail
    refine (takeSign_no b t q1 k'' z _ HR3.out hq1 ht HNE.out).mono ?_
    rintro e w4 ⟨rfl, g1, r1⟩
    have HG4 : Hid (G b w0 w4) := HG3.out.trans g1
    have HR4 : Hid (Rd b t (skipAt t q1) k'' w4) := r1
    have HI4 : Hid (Inv s'' k'' w4) := HK.out _ _ _ _ HI3.out g1
    clear g1 r1
    by_cases h44 : hd (skip (rest t q1)) = 44
    · have hs1 := HSL.out q1 hq1 (by rw [h44]; decide)
      have H44 : Hid (hd (skip (rest t q1)) = 44) := h44
      clear h44
      go_wp2_with fail
      refine (takeSign_yes b t (skipAt t q1) k'' 44 _ HR4.out hle1 ht (by rw [HSR.out]; exact H44.out) (by decide)).mono ?_
      rintro e w5 ⟨rfl, g1, r1⟩
      have HG5 : Hid (G b w0 w5) := HG4.out.trans g1
      have HR5 : Hid (Rd b t (skipAt t q1 + 1) k'' w5) := by rw [HSS.out] at r1; exact r1
      have HI5 : Hid (Inv s'' k'' w5) := HK.out _ _ _ _ HI4.out g1
      clear g1 r1
      go_wp2_with fail
      go_roundw
      case rel => exact ⟨s'', k'', skipAt t q1 + 1, f, by omega, hk2, by omega, by omega, by rw [HRes2.out, if_neg HNE.out, if_pos H44.out], HI5.out, HR5.out, HG5.out⟩
      case measure => rw [HR5.out.placeOf_eq, HR'.out.placeOf_eq]; omega
    · have HN44 : Hid (hd (skip (rest t q1)) ≠ 44) := h44
      clear h44
      go_wp2_with fail
      refine (takeSign_no b t (skipAt t q1) k'' 44 _ HR4.out hle1 ht (by rw [HSR.out]; exact HN44.out)).mono ?_
      rintro e w5 ⟨rfl, g1, r1⟩
      have HG5 : Hid (G b w0 w5) := HG4.out.trans g1
      have HE5 : Hid (EInv w5) := HE.out _ _ _ (HK.out _ _ _ _ HI4.out g1)
      clear g1 r1
      go_wp2_with fail
      go_ret
      exact ⟨HG5.out, Or.inl ⟨3, by rw [HRes2.out, if_neg HNE.out, if_neg HN44.out], by decide, by decide, rfl, HE5.out⟩⟩
set_option maxRecDepth 100000 in
set_option maxHeartbeats 4000000 in
theorem row_object {σ : Type} (b : Nat) (t : ByteArray) (p k c0 c1 c2 : Nat) (z : UInt8) (s : σ) (w0 w : World) (one : σ → Nat → Bs → Except Nat (σ × Nat × Bs)) (Inv : σ → Nat → World → Prop) (EInv : World → Prop)
    (h : Rd b t p k w) (hlt : p < t.size) (ht : t.size ≤ 2000) (hk : k ≤ 200) (hi : Inv s k w) (hg : G b w0 w) (hz : z ≠ 0)
    (hone : OneOK 81 #[.pointer (some ⟨c0, 0, none⟩), .pointer (some ⟨c1, 0, none⟩), .pointer (some ⟨c2, 0, none⟩)] b t w0 one Inv EInv) (hkept : ∀ s k w w', Inv s k w → G b w w' → Inv s k w') (hE : ∀ s k w, Inv s k w → EInv w) :
    Calls Tryz.prog 79 #[.pointer (some ⟨b, 0, none⟩), .int .u8 z.toNat, .func (.func 81) #[] #[.pointer (some ⟨c0, 0, none⟩), .pointer (some ⟨c1, 0, none⟩), .pointer (some ⟨c2, 0, none⟩)]] w (RowPost b t w0 (row z one s k (rest t p)) p Inv EInv) := by
  have a1 := h.place
  have a2 := h.free 1
  have HR : Hid (Rd b t (p + 1) k (w.setCell ⟨b, 1, none⟩ (.int .i64 ((p : Int) + 1)))) := h.move (p + 1)
  have HG : Hid (G b w0 (w.setCell ⟨b, 1, none⟩ (.int .i64 ((p : Int) + 1)))) := hg.setCell 1 _
  have HI : Hid (Inv s k (w.setCell ⟨b, 1, none⟩ (.int .i64 ((p : Int) + 1)))) := hkept _ _ _ _ hi ((G.refl b w).setCell 1 _)
  have HK : Hid (∀ s k w w', Inv s k w → G b w w' → Inv s k w') := hkept
  have HE : Hid (∀ s k w, Inv s k w → EInv w) := hE
  have HO : Hid (OneOK 81 #[.pointer (some ⟨c0, 0, none⟩), .pointer (some ⟨c1, 0, none⟩), .pointer (some ⟨c2, 0, none⟩)] b t w0 one Inv EInv) := hone
  have HRow : Hid (row z one s k (rest t p) = if hd (skip (rest t (p + 1))) = z then .ok (s, k, (skip (rest t (p + 1))).tail) else rowGo z one ((rest t p).length + 1) s k (skip (rest t (p + 1)))) := by
    show row z one s k (rest t p) = _
    rw [row, rest_tail]
  have HTL : Hid (∀ q, q ≤ t.size → (skip (rest t q)).tail = rest t (skipAt t q + 1)) := fun q hq => by rw [← rest_skip t q hq, rest_tail]
  have HSL : Hid (∀ q, q ≤ t.size → hd (skip (rest t q)) ≠ 0 → skipAt t q < t.size) := fun q hq h => lt_of_hd (by rw [rest_skip t q hq]; exact h)
  clear h hi hg hkept hone hE
  generalize row z one s k (rest t p) = res at *
  go_enter Tryz.func79, Tryz.ntmps79
  go_wp2_with fail
  generalize w.setCell ⟨b, 1, none⟩ (.int .i64 ((p : Int) + 1)) = w1 at *
  clear a1 a2
  by_cases he : hd (skip (rest t (p + 1))) = z
  · have hs1 := HSL.out (p + 1) (by omega) (by rw [he]; exact hz)
    have hge := skipAt_ge t (p + 1) (by omega)
    have HEz : Hid (hd (skip (rest t (p + 1))) = z) := he
    clear he
    refine (takeSign_yes b t (p + 1) k z _ HR.out (by omega) ht HEz.out hz).mono ?_
    rintro e w2 ⟨rfl, g1, r1⟩
    have HG2 : Hid (G b w0 w2) := HG.out.trans g1
    have HR2 : Hid (Rd b t (skipAt t (p + 1) + 1) k w2) := r1
    have HI2 : Hid (Inv s k w2) := HK.out _ _ _ _ HI.out g1
    clear g1 r1
    go_wp2_with fail
    go_ret
    refine ⟨HG2.out, Or.inr ⟨s, k, skipAt t (p + 1) + 1, ?_, by omega, by omega, hk, rfl, HR2.out, HI2.out⟩⟩
    rw [HRow.out, if_pos HEz.out, HTL.out _ (by omega)]
  have HNE : Hid (hd (skip (rest t (p + 1))) ≠ z) := he
  have hge := skipAt_ge t (p + 1) (by omega)
  have hle := skipAt_le t (p + 1)
  have HSK : Hid (rest t (skipAt t (p + 1)) = skip (rest t (p + 1))) := rest_skip t (p + 1) (by omega)
  have hlen : (rest t p).length = t.size - p := rest_len t p
  clear he
  refine (takeSign_no b t (p + 1) k z _ HR.out (by omega) ht HNE.out).mono ?_
  rintro e w2 ⟨rfl, g1, r1⟩
  have HG2 : Hid (G b w0 w2) := HG.out.trans g1
  have HR2 : Hid (Rd b t (skipAt t (p + 1)) k w2) := r1
  have HI2 : Hid (Inv s k w2) := HK.out _ _ _ _ HI.out g1
  have HR0 : Hid (res = rowGo z one ((rest t p).length + 1) s k (rest t (skipAt t (p + 1)))) := by
    show res = _
    rw [HRow.out, if_neg HNE.out, HSK.out]
  clear g1 r1
  go_wp2_with fail
  go_loopw [7] (fun _ wr => ∃ s' k' q f, q ≤ t.size ∧ k' ≤ 200 ∧ p < q ∧ t.size - q < f ∧ res = rowGo z one f s' k' (rest t q) ∧ Inv s' k' wr ∧ Rd b t q k' wr ∧ G b w0 wr) (fun _ wr => t.size - placeOf b wr)
  case atStart => exact ⟨s, k, skipAt t (p + 1), (rest t p).length + 1, hle, hk, by omega, by omega, HR0.out, HI2.out, HR2.out, HG2.out⟩
  case round =>
    obtain ⟨s', k', q, f, hq, hk', hpq, hf, hres, hinv, hR, hG⟩ := hrel
    obtain ⟨f, rfl⟩ : ∃ f', f = f' + 1 := ⟨f - 1, by omega⟩
    have HRes : Hid (res = rowGo z one (f + 1) s' k' (rest t q)) := hres
    have HI' : Hid (Inv s' k' wr) := hinv
    have HR' : Hid (Rd b t q k' wr) := hR
    have HG' : Hid (G b w0 wr) := hG
    clear hres hinv hR hG
    go_wp2_with fail
    refine (HO.out s' q k' wr HI'.out HG'.out HR'.out hq hk').mono ?_
    rintro e w3 ⟨g3, h3⟩
    have HG3 : Hid (G b w0 w3) := g3
    clear g3
    rcases h3 with ⟨er, hone, her, hlt100, rfl, he3⟩ | ⟨s'', k'', q1, hone, hqq, hq1, hk2, rfl, r3, i3⟩
    · have hbe := err_bool her
      have HOne : Hid (one s' k' (rest t q) = .error er) := hone
      have HE3 : Hid (EInv w3) := he3
      clear hone he3
      go_wp2_with fail
      go_ret
      exact ⟨HG3.out, Or.inl ⟨er, by rw [HRes.out, rowGo_succ, HOne.out], her, hlt100, rfl, HE3.out⟩⟩
    have HOne : Hid (one s' k' (rest t q) = .ok (s'', k'', rest t q1)) := hone
    have HR3 : Hid (Rd b t q1 k'' w3) := r3
    have HI3 : Hid (Inv s'' k'' w3) := i3
    have hge1 := skipAt_ge t q1 hq1
    have hle1 := skipAt_le t q1
    have HRes2 : Hid (res = if hd (skip (rest t q1)) = z then .ok (s'', k'', rest t (skipAt t q1 + 1)) else if hd (skip (rest t q1)) = 44 then rowGo z one f s'' k'' (rest t (skipAt t q1 + 1)) else .error eSyntax) := by
      show res = _
      rw [HRes.out, rowGo_succ, HOne.out]
      simp only [HTL.out q1 hq1]
    clear hone r3 i3
    by_cases he : hd (skip (rest t q1)) = z
    · have hs1 := HSL.out q1 hq1 (by rw [he]; exact hz)
      have HEz : Hid (hd (skip (rest t q1)) = z) := he
      clear he
      go_wp2_with fail
      refine (takeSign_yes b t q1 k'' z _ HR3.out hq1 ht HEz.out hz).mono ?_
      rintro e w4 ⟨rfl, g1, r1⟩
      have HG4 : Hid (G b w0 w4) := HG3.out.trans g1
      have HR4 : Hid (Rd b t (skipAt t q1 + 1) k'' w4) := r1
      have HI4 : Hid (Inv s'' k'' w4) := HK.out _ _ _ _ HI3.out g1
      clear g1 r1
      go_wp2_with fail
      go_ret
      refine ⟨HG4.out, Or.inr ⟨s'', k'', skipAt t q1 + 1, ?_, by omega, by omega, hk2, rfl, HR4.out, HI4.out⟩⟩
      rw [HRes2.out, if_pos HEz.out]
    have HNE : Hid (hd (skip (rest t q1)) ≠ z) := he
    have HSS : Hid (skipAt t (skipAt t q1) = skipAt t q1) := skipAt_skipAt t q1 hq1
    have HSR : Hid (skip (rest t (skipAt t q1)) = skip (rest t q1)) := by
      show skip (rest t (skipAt t q1)) = skip (rest t q1)
      rw [rest_skip t q1 hq1, skip_skip]
    clear he
    go_wp2_with fail
    refine (takeSign_no b t q1 k'' z _ HR3.out hq1 ht HNE.out).mono ?_
    rintro e w4 ⟨rfl, g1, r1⟩
    have HG4 : Hid (G b w0 w4) := HG3.out.trans g1
    have HR4 : Hid (Rd b t (skipAt t q1) k'' w4) := r1
    have HI4 : Hid (Inv s'' k'' w4) := HK.out _ _ _ _ HI3.out g1
    clear g1 r1
    by_cases h44 : hd (skip (rest t q1)) = 44
    · have hs1 := HSL.out q1 hq1 (by rw [h44]; decide)
      have H44 : Hid (hd (skip (rest t q1)) = 44) := h44
      clear h44
      go_wp2_with fail
      refine (takeSign_yes b t (skipAt t q1) k'' 44 _ HR4.out hle1 ht (by rw [HSR.out]; exact H44.out) (by decide)).mono ?_
      rintro e w5 ⟨rfl, g1, r1⟩
      have HG5 : Hid (G b w0 w5) := HG4.out.trans g1
      have HR5 : Hid (Rd b t (skipAt t q1 + 1) k'' w5) := by rw [HSS.out] at r1; exact r1
      have HI5 : Hid (Inv s'' k'' w5) := HK.out _ _ _ _ HI4.out g1
      clear g1 r1
      go_wp2_with fail
      go_roundw
      case rel => exact ⟨s'', k'', skipAt t q1 + 1, f, by omega, hk2, by omega, by omega, by rw [HRes2.out, if_neg HNE.out, if_pos H44.out], HI5.out, HR5.out, HG5.out⟩
      case measure => rw [HR5.out.placeOf_eq, HR'.out.placeOf_eq]; omega
    · have HN44 : Hid (hd (skip (rest t q1)) ≠ 44) := h44
      clear h44
      go_wp2_with fail
      refine (takeSign_no b t (skipAt t q1) k'' 44 _ HR4.out hle1 ht (by rw [HSR.out]; exact HN44.out)).mono ?_
      rintro e w5 ⟨rfl, g1, r1⟩
      have HG5 : Hid (G b w0 w5) := HG4.out.trans g1
      have HE5 : Hid (EInv w5) := HE.out _ _ _ (HK.out _ _ _ _ HI4.out g1)
      clear g1 r1
      go_wp2_with fail
      go_ret
      exact ⟨HG5.out, Or.inl ⟨3, by rw [HRes2.out, if_neg HNE.out, if_neg HN44.out], by decide, by decide, rfl, HE5.out⟩⟩
end Go.Proofs.YtaogilpkeeigoaaGreatDoor
