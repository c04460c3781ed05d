/- RdRow, RdList, Find, RdSign, RdQuoted, RdName -/
import Derived.Test.YtjcdklbimaclkaaGreatDoorMAe
import Derived.Test.YtjcdklbimaclkaaGreatDoorMAa
import Derived.Test.YtjcdklbimaclkaaGreatDoorMAb
import Derived.Test.YtjcdklbimaclkaaGreatDoorShelf
import Derived.WalkKit
import Derived.WalkSpells
namespace Go.Proofs.YtjcdklbimaclkaaGreatDoor
open Go.RowKit
set_option linter.unusedVariables false
set_option linter.unusedSimpArgs false
theorem skip_skip : ∀ r : Bs, skip (skip r) = skip r
 | [] => rfl
 | c :: r => by
  rw [skip]
  split
  ·exact skip_skip r
  ·rename_i h
   rw [skip, if_neg h]
theorem skipAt_skipAt (t : ByteArray) (p : Nat) (hp : p <= t.size) : skipAt t (skipAt t p) = skipAt t p := by
 have h1 := rest_skip t p hp
 have h2 := rest_skip t (skipAt t p) (skipAt_le t p)
 rw [h1, skip_skip, <- h1] at h2
 exact rest_inj (skipAt_le _ _) (skipAt_le _ _) h2
def OneOK {σ : Type} (f : Nat) (cs : Array Value) (b : Nat) (t : ByteArray) (w0 : World) (one : σ -> Nat -> Bs -> Except Nat (σ × Nat × Bs)) (Inv : σ -> Nat -> World -> Prop) (EInv : World -> Prop) : Prop :=
 ∀ s p k w, Inv s k w -> G b w0 w -> Rd b t p k w -> p <= t.size -> k <= 200 ->
  Calls Tryz.prog f cs w fun e w' => G b w0 w' /\
   ((∃ er : Nat, one s k (rest t p) = .error er /\ er ≠ 0 /\ er < 100 /\ e = .returned (.int .i64 er) /\ EInv w') ∨
    ∃ s' k' q, one s k (rest t p) = .ok (s', k', rest t q) /\ p < q /\ q <= t.size /\ k' <= 200 /\ e = .returned (.int .i64 0) /\ Rd b t q k' w' /\ Inv s' k' w')
def RowPost {σ : Type} (b : Nat) (t : ByteArray) (w0 : World) (r : Except Nat (σ × Nat × Bs)) (p : Nat) (Inv : σ -> Nat -> World -> Prop) (EInv : World -> Prop) (e : Ending) (w' : World) : Prop :=
 G b w0 w' /\ ((∃ er : Nat, r = .error er /\ er ≠ 0 /\ er < 100 /\ e = .returned (.int .i64 er) /\ EInv w') ∨
  ∃ s' k' q, r = .ok (s', k', rest t q) /\ p < q /\ q <= t.size /\ k' <= 200 /\ e = .returned (.int .i64 0) /\ Rd b t q k' w' /\ Inv s' k' w')
theorem rowGo_succ {σ : Type} (z : UInt8) (one : σ -> Nat -> Bs -> Except Nat (σ × Nat × Bs)) (f : Nat) (s : σ) (k : Nat) (r : Bs) : rowGo z one (f + 1) s k r =
  match one s k r with
  | .error e => .error e
  | .ok (s', k', r1) =>
   if hd (skip r1) = z then .ok (s', k', (skip r1).tail)
   else if hd (skip r1) = 44 then rowGo z one f s' k' (skip r1).tail
   else .error eSyntax := rfl
theorem err_bool {n : Nat} (h : n ≠ 0) : ((n : Int) != 0) = true := by
 rw [bne_iff_ne]
 omega
set_option maxRecDepth 100000 in
set_option maxHeartbeats 4000000 in
theorem row_list {σ : Type} (b : Nat) (t : ByteArray) (p k c0 c1 c2 : Nat) (z : UInt8) (s : σ) (w0 w : World) (one : σ -> Nat -> Bs -> Except Nat (σ × Nat × Bs)) (Inv : σ -> Nat -> World -> Prop) (EInv : World -> Prop)
  (h : Rd b t p k w) (hlt : p < t.size) (ht : t.size <= 2000) (hk : k <= 200) (hi : Inv s k w) (hg : G b w0 w) (hz : z ≠ 0)
  (hone : OneOK 84 #[.pointer (some ⟨c0, 0, none⟩), .pointer (some ⟨c1, 0, none⟩), .pointer (some ⟨c2, 0, none⟩)] b t w0 one Inv EInv) (hkept : ∀ s k w w', Inv s k w -> G b w w' -> Inv s k w') (hE : ∀ s k w, Inv s k w -> EInv w) :
  Calls Tryz.prog 83 #[.pointer (some ⟨b, 0, none⟩), .int .u8 z.toNat, .func (.func 84) #[] #[.pointer (some ⟨c0, 0, none⟩), .pointer (some ⟨c1, 0, none⟩), .pointer (some ⟨c2, 0, none⟩)]] w (RowPost b t w0 (row z one s k (rest t p)) p Inv EInv) := by
 have a1 := h.place
 have a2 := h.free 1
 have HR : Hid (Rd b t (p + 1) k (w.setCell ⟨b, 1, none⟩ (.int .i64 ((p : Int) + 1)))) := h.move (p + 1)
 have HG : Hid (G b w0 (w.setCell ⟨b, 1, none⟩ (.int .i64 ((p : Int) + 1)))) := hg.setCell 1 _
 have HI : Hid (Inv s k (w.setCell ⟨b, 1, none⟩ (.int .i64 ((p : Int) + 1)))) := hkept _ _ _ _ hi ((G.refl b w).setCell 1 _)
 have HK : Hid (∀ s k w w', Inv s k w -> G b w w' -> Inv s k w') := hkept
 have HE : Hid (∀ s k w, Inv s k w -> EInv w) := hE
 have HO : Hid (OneOK 84 #[.pointer (some ⟨c0, 0, none⟩), .pointer (some ⟨c1, 0, none⟩), .pointer (some ⟨c2, 0, none⟩)] b t w0 one Inv EInv) := hone
 have HRow : Hid (row z one s k (rest t p) = if hd (skip (rest t (p + 1))) = z then .ok (s, k, (skip (rest t (p + 1))).tail) else rowGo z one ((rest t p).length + 1) s k (skip (rest t (p + 1)))) := by
  show row z one s k (rest t p) = _
  rw [row, rest_tail]
 have HTL : Hid (∀ q, q <= t.size -> (skip (rest t q)).tail = rest t (skipAt t q + 1)) := fun q hq => by rw [<- rest_skip t q hq, rest_tail]
 have HSL : Hid (∀ q, q <= t.size -> hd (skip (rest t q)) ≠ 0 -> skipAt t q < t.size) := fun q hq h => lt_of_hd (by rw [rest_skip t q hq]; exact h)
 clear h hi hg hkept hone hE
 generalize row z one s k (rest t p) = res at *
 go_enter Tryz.func83, Tryz.ntmps83
 go_wp2_with fail
 generalize w.setCell ⟨b, 1, none⟩ (.int .i64 ((p : Int) + 1)) = w1 at *
 clear a1 a2
 by_cases he : hd (skip (rest t (p + 1))) = z
 ·have hs1 := HSL.out (p + 1) (by omega) (by rw [he]; exact hz)
  have hge := skipAt_ge t (p + 1) (by omega)
  have HEz : Hid (hd (skip (rest t (p + 1))) = z) := he
  clear he
  refine (takeSign_yes b t (p + 1) k z _ HR.out (by omega) ht HEz.out hz).mono ?_
  rintro e w2 ⟨rfl, g1, r1⟩
  have HG2 : Hid (G b w0 w2) := HG.out.trans g1
  have HR2 : Hid (Rd b t (skipAt t (p + 1) + 1) k w2) := r1
  have HI2 : Hid (Inv s k w2) := HK.out _ _ _ _ HI.out g1
  clear g1 r1
  go_wp2_with fail
  go_ret
  refine ⟨HG2.out, Or.inr ⟨s, k, skipAt t (p + 1) + 1, ?_, by omega, by omega, hk, rfl, HR2.out, HI2.out⟩⟩
  rw [HRow.out, if_pos HEz.out, HTL.out _ (by omega)]
 have HNE : Hid (hd (skip (rest t (p + 1))) ≠ z) := he
 have hge := skipAt_ge t (p + 1) (by omega)
 have hle := skipAt_le t (p + 1)
 have HSK : Hid (rest t (skipAt t (p + 1)) = skip (rest t (p + 1))) := rest_skip t (p + 1) (by omega)
 have hlen : (rest t p).length = t.size - p := rest_len t p
 clear he
 refine (takeSign_no b t (p + 1) k z _ HR.out (by omega) ht HNE.out).mono ?_
 rintro e w2 ⟨rfl, g1, r1⟩
 have HG2 : Hid (G b w0 w2) := HG.out.trans g1
 have HR2 : Hid (Rd b t (skipAt t (p + 1)) k w2) := r1
 have HI2 : Hid (Inv s k w2) := HK.out _ _ _ _ HI.out g1
 have HR0 : Hid (res = rowGo z one ((rest t p).length + 1) s k (rest t (skipAt t (p + 1)))) := by
  show res = _
  rw [HRow.out, if_neg HNE.out, HSK.out]
 clear g1 r1
 go_wp2_with fail
 go_loopw [7] (fun _ wr => ∃ s' k' q f, q <= t.size /\ k' <= 200 /\ p < q /\ t.size - q < f /\ res = rowGo z one f s' k' (rest t q) /\ Inv s' k' wr /\ Rd b t q k' wr /\ G b w0 wr) (fun _ wr => t.size - placeOf b wr)
 case atStart => exact ⟨s, k, skipAt t (p + 1), (rest t p).length + 1, hle, hk, by omega, by omega, HR0.out, HI2.out, HR2.out, HG2.out⟩
 case round =>
  obtain ⟨s', k', q, f, hq, hk', hpq, hf, hres, hinv, hR, hG⟩ := hrel
  obtain ⟨f, rfl⟩ : ∃ f', f = f' + 1 := ⟨f - 1, by omega⟩
  have HRes : Hid (res = rowGo z one (f + 1) s' k' (rest t q)) := hres
  have HI' : Hid (Inv s' k' wr) := hinv
  have HR' : Hid (Rd b t q k' wr) := hR
  have HG' : Hid (G b w0 wr) := hG
  clear hres hinv hR hG
  go_wp2_with fail
  refine (HO.out s' q k' wr HI'.out HG'.out HR'.out hq hk').mono ?_
  rintro e w3 ⟨g3, h3⟩
  have HG3 : Hid (G b w0 w3) := g3
  clear g3
  rcases h3 with ⟨er, hone, her, hlt100, rfl, he3⟩ | ⟨s'', k'', q1, hone, hqq, hq1, hk2, rfl, r3, i3⟩
  ·have hbe := err_bool her
   have HOne : Hid (one s' k' (rest t q) = .error er) := hone
   have HE3 : Hid (EInv w3) := he3
   clear hone he3
   go_wp2_with fail
   go_ret
   exact ⟨HG3.out, Or.inl ⟨er, by rw [HRes.out, rowGo_succ, HOne.out], her, hlt100, rfl, HE3.out⟩⟩
  have HOne : Hid (one s' k' (rest t q) = .ok (s'', k'', rest t q1)) := hone
  have HR3 : Hid (Rd b t q1 k'' w3) := r3
  have HI3 : Hid (Inv s'' k'' w3) := i3
  have hge1 := skipAt_ge t q1 hq1
  have hle1 := skipAt_le t q1
  have HRes2 : Hid (res = if hd (skip (rest t q1)) = z then .ok (s'', k'', rest t (skipAt t q1 + 1)) else if hd (skip (rest t q1)) = 44 then rowGo z one f s'' k'' (rest t (skipAt t q1 + 1)) else .error eSyntax) := by
   show res = _
   rw [HRes.out, rowGo_succ, HOne.out]
   simp only [HTL.out q1 hq1]
  clear hone r3 i3
  by_cases he : hd (skip (rest t q1)) = z
  ·have hs1 := HSL.out q1 hq1 (by rw [he]; exact hz)
   have HEz : Hid (hd (skip (rest t q1)) = z) := he
   clear he
   go_wp2_with fail
   refine (takeSign_yes b t q1 k'' z _ HR3.out hq1 ht HEz.out hz).mono ?_
   rintro e w4 ⟨rfl, g1, r1⟩
   have HG4 : Hid (G b w0 w4) := HG3.out.trans g1
   have HR4 : Hid (Rd b t (skipAt t q1 + 1) k'' w4) := r1
   have HI4 : Hid (Inv s'' k'' w4) := HK.out _ _ _ _ HI3.out g1
   clear g1 r1
   go_wp2_with fail
   go_ret
   refine ⟨HG4.out, Or.inr ⟨s'', k'', skipAt t q1 + 1, ?_, by omega, by omega, hk2, rfl, HR4.out, HI4.out⟩⟩
   rw [HRes2.out, if_pos HEz.out]
  have HNE : Hid (hd (skip (rest t q1)) ≠ z) := he
  have HSS : Hid (skipAt t (skipAt t q1) = skipAt t q1) := skipAt_skipAt t q1 hq1
  have HSR : Hid (skip (rest t (skipAt t q1)) = skip (rest t q1)) := by
   show skip (rest t (skipAt t q1)) = skip (rest t q1)
   rw [rest_skip t q1 hq1, skip_skip]
  clear he
  go_wp2_with fail
  refine (takeSign_no b t q1 k'' z _ HR3.out hq1 ht HNE.out).mono ?_
  rintro e w4 ⟨rfl, g1, r1⟩
  have HG4 : Hid (G b w0 w4) := HG3.out.trans g1
  have HR4 : Hid (Rd b t (skipAt t q1) k'' w4) := r1
  have HI4 : Hid (Inv s'' k'' w4) := HK.out _ _ _ _ HI3.out g1
  clear g1 r1
  by_cases h44 : hd (skip (rest t q1)) = 44
  ·have hs1 := HSL.out q1 hq1 (by rw [h44]; decide)
   have H44 : Hid (hd (skip (rest t q1)) = 44) := h44
   clear h44
   go_wp2_with fail
   refine (takeSign_yes b t (skipAt t q1) k'' 44 _ HR4.out hle1 ht (by rw [HSR.out]; exact H44.out) (by decide)).mono ?_
   rintro e w5 ⟨rfl, g1, r1⟩
   have HG5 : Hid (G b w0 w5) := HG4.out.trans g1
   have HR5 : Hid (Rd b t (skipAt t q1 + 1) k'' w5) := by rw [HSS.out] at r1; exact r1
   have HI5 : Hid (Inv s'' k'' w5) := HK.out _ _ _ _ HI4.out g1
   clear g1 r1
   go_wp2_with fail
   go_roundw
   case rel => exact ⟨s'', k'', skipAt t q1 + 1, f, by omega, hk2, by omega, by omega, by rw [HRes2.out, if_neg HNE.out, if_pos H44.out], HI5.out, HR5.out, HG5.out⟩
   case measure => rw [HR5.out.placeOf_eq, HR'.out.placeOf_eq]; omega
  ·have HN44 : Hid (hd (skip (rest t q1)) ≠ 44) := h44
   clear h44
   go_wp2_with fail
   refine (takeSign_no b t (skipAt t q1) k'' 44 _ HR4.out hle1 ht (by rw [HSR.out]; exact HN44.out)).mono ?_
   rintro e w5 ⟨rfl, g1, r1⟩
   have HG5 : Hid (G b w0 w5) := HG4.out.trans g1
   have HE5 : Hid (EInv w5) := HE.out _ _ _ (HK.out _ _ _ _ HI4.out g1)
   clear g1 r1
   go_wp2_with fail
   go_ret
   exact ⟨HG5.out, Or.inl ⟨3, by rw [HRes2.out, if_neg HNE.out, if_neg HN44.out], by decide, by decide, rfl, HE5.out⟩⟩
set_option maxRecDepth 100000 in
set_option maxHeartbeats 4000000 in
theorem row_object {σ : Type} (b : Nat) (t : ByteArray) (p k c0 c1 c2 : Nat) (z : UInt8) (s : σ) (w0 w : World) (one : σ -> Nat -> Bs -> Except Nat (σ × Nat × Bs)) (Inv : σ -> Nat -> World -> Prop) (EInv : World -> Prop)
  (h : Rd b t p k w) (hlt : p < t.size) (ht : t.size <= 2000) (hk : k <= 200) (hi : Inv s k w) (hg : G b w0 w) (hz : z ≠ 0)
  (hone : OneOK 85 #[.pointer (some ⟨c0, 0, none⟩), .pointer (some ⟨c1, 0, none⟩), .pointer (some ⟨c2, 0, none⟩)] b t w0 one Inv EInv) (hkept : ∀ s k w w', Inv s k w -> G b w w' -> Inv s k w') (hE : ∀ s k w, Inv s k w -> EInv w) :
  Calls Tryz.prog 83 #[.pointer (some ⟨b, 0, none⟩), .int .u8 z.toNat, .func (.func 85) #[] #[.pointer (some ⟨c0, 0, none⟩), .pointer (some ⟨c1, 0, none⟩), .pointer (some ⟨c2, 0, none⟩)]] w (RowPost b t w0 (row z one s k (rest t p)) p Inv EInv) := by
 have a1 := h.place
 have a2 := h.free 1
 have HR : Hid (Rd b t (p + 1) k (w.setCell ⟨b, 1, none⟩ (.int .i64 ((p : Int) + 1)))) := h.move (p + 1)
 have HG : Hid (G b w0 (w.setCell ⟨b, 1, none⟩ (.int .i64 ((p : Int) + 1)))) := hg.setCell 1 _
 have HI : Hid (Inv s k (w.setCell ⟨b, 1, none⟩ (.int .i64 ((p : Int) + 1)))) := hkept _ _ _ _ hi ((G.refl b w).setCell 1 _)
 have HK : Hid (∀ s k w w', Inv s k w -> G b w w' -> Inv s k w') := hkept
 have HE : Hid (∀ s k w, Inv s k w -> EInv w) := hE
 have HO : Hid (OneOK 85 #[.pointer (some ⟨c0, 0, none⟩), .pointer (some ⟨c1, 0, none⟩), .pointer (some ⟨c2, 0, none⟩)] b t w0 one Inv EInv) := hone
 have HRow : Hid (row z one s k (rest t p) = if hd (skip (rest t (p + 1))) = z then .ok (s, k, (skip (rest t (p + 1))).tail) else rowGo z one ((rest t p).length + 1) s k (skip (rest t (p + 1)))) := by
  show row z one s k (rest t p) = _
  rw [row, rest_tail]
 have HTL : Hid (∀ q, q <= t.size -> (skip (rest t q)).tail = rest t (skipAt t q + 1)) := fun q hq => by rw [<- rest_skip t q hq, rest_tail]
 have HSL : Hid (∀ q, q <= t.size -> hd (skip (rest t q)) ≠ 0 -> skipAt t q < t.size) := fun q hq h => lt_of_hd (by rw [rest_skip t q hq]; exact h)
 clear h hi hg hkept hone hE
 generalize row z one s k (rest t p) = res at *
 go_enter Tryz.func83, Tryz.ntmps83
 go_wp2_with fail
 generalize w.setCell ⟨b, 1, none⟩ (.int .i64 ((p : Int) + 1)) = w1 at *
 clear a1 a2
 by_cases he : hd (skip (rest t (p + 1))) = z
 ·have hs1 := HSL.out (p + 1) (by omega) (by rw [he]; exact hz)
  have hge := skipAt_ge t (p + 1) (by omega)
  have HEz : Hid (hd (skip (rest t (p + 1))) = z) := he
  clear he
  refine (takeSign_yes b t (p + 1) k z _ HR.out (by omega) ht HEz.out hz).mono ?_
  rintro e w2 ⟨rfl, g1, r1⟩
  have HG2 : Hid (G b w0 w2) := HG.out.trans g1
  have HR2 : Hid (Rd b t (skipAt t (p + 1) + 1) k w2) := r1
  have HI2 : Hid (Inv s k w2) := HK.out _ _ _ _ HI.out g1
  clear g1 r1
  go_wp2_with fail
  go_ret
  refine ⟨HG2.out, Or.inr ⟨s, k, skipAt t (p + 1) + 1, ?_, by omega, by omega, hk, rfl, HR2.out, HI2.out⟩⟩
  rw [HRow.out, if_pos HEz.out, HTL.out _ (by omega)]
 have HNE : Hid (hd (skip (rest t (p + 1))) ≠ z) := he
 have hge := skipAt_ge t (p + 1) (by omega)
 have hle := skipAt_le t (p + 1)
 have HSK : Hid (rest t (skipAt t (p + 1)) = skip (rest t (p + 1))) := rest_skip t (p + 1) (by omega)
 have hlen : (rest t p).length = t.size - p := rest_len t p
 clear he
 refine (takeSign_no b t (p + 1) k z _ HR.out (by omega) ht HNE.out).mono ?_
 rintro e w2 ⟨rfl, g1, r1⟩
 have HG2 : Hid (G b w0 w2) := HG.out.trans g1
 have HR2 : Hid (Rd b t (skipAt t (p + 1)) k w2) := r1
 have HI2 : Hid (Inv s k w2) := HK.out _ _ _ _ HI.out g1
 have HR0 : Hid (res = rowGo z one ((rest t p).length + 1) s k (rest t (skipAt t (p + 1)))) := by
  show res = _
  rw [HRow.out, if_neg HNE.out, HSK.out]
 clear g1 r1
 go_wp2_with fail
 go_loopw [7] (fun _ wr => ∃ s' k' q f, q <= t.size /\ k' <= 200 /\ p < q /\ t.size - q < f /\ res = rowGo z one f s' k' (rest t q) /\ Inv s' k' wr /\ Rd b t q k' wr /\ G b w0 wr) (fun _ wr => t.size - placeOf b wr)
 case atStart => exact ⟨s, k, skipAt t (p + 1), (rest t p).length + 1, hle, hk, by omega, by omega, HR0.out, HI2.out, HR2.out, HG2.out⟩
 case round =>
  obtain ⟨s', k', q, f, hq, hk', hpq, hf, hres, hinv, hR, hG⟩ := hrel
  obtain ⟨f, rfl⟩ : ∃ f', f = f' + 1 := ⟨f - 1, by omega⟩
  have HRes : Hid (res = rowGo z one (f + 1) s' k' (rest t q)) := hres
  have HI' : Hid (Inv s' k' wr) := hinv
  have HR' : Hid (Rd b t q k' wr) := hR
  have HG' : Hid (G b w0 wr) := hG
  clear hres hinv hR hG
  go_wp2_with fail
  refine (HO.out s' q k' wr HI'.out HG'.out HR'.out hq hk').mono ?_
  rintro e w3 ⟨g3, h3⟩
  have HG3 : Hid (G b w0 w3) := g3
  clear g3
  rcases h3 with ⟨er, hone, her, hlt100, rfl, he3⟩ | ⟨s'', k'', q1, hone, hqq, hq1, hk2, rfl, r3, i3⟩
  ·have hbe := err_bool her
   have HOne : Hid (one s' k' (rest t q) = .error er) := hone
   have HE3 : Hid (EInv w3) := he3
   clear hone he3
   go_wp2_with fail
   go_ret
   exact ⟨HG3.out, Or.inl ⟨er, by rw [HRes.out, rowGo_succ, HOne.out], her, hlt100, rfl, HE3.out⟩⟩
  have HOne : Hid (one s' k' (rest t q) = .ok (s'', k'', rest t q1)) := hone
  have HR3 : Hid (Rd b t q1 k'' w3) := r3
  have HI3 : Hid (Inv s'' k'' w3) := i3
  have hge1 := skipAt_ge t q1 hq1
  have hle1 := skipAt_le t q1
  have HRes2 : Hid (res = if hd (skip (rest t q1)) = z then .ok (s'', k'', rest t (skipAt t q1 + 1)) else if hd (skip (rest t q1)) = 44 then rowGo z one f s'' k'' (rest t (skipAt t q1 + 1)) else .error eSyntax) := by
   show res = _
   rw [HRes.out, rowGo_succ, HOne.out]
   simp only [HTL.out q1 hq1]
  clear hone r3 i3
  by_cases he : hd (skip (rest t q1)) = z
  ·have hs1 := HSL.out q1 hq1 (by rw [he]; exact hz)
   have HEz : Hid (hd (skip (rest t q1)) = z) := he
   clear he
   go_wp2_with fail
   refine (takeSign_yes b t q1 k'' z _ HR3.out hq1 ht HEz.out hz).mono ?_
   rintro e w4 ⟨rfl, g1, r1⟩
   have HG4 : Hid (G b w0 w4) := HG3.out.trans g1
   have HR4 : Hid (Rd b t (skipAt t q1 + 1) k'' w4) := r1
   have HI4 : Hid (Inv s'' k'' w4) := HK.out _ _ _ _ HI3.out g1
   clear g1 r1
   go_wp2_with fail
   go_ret
   refine ⟨HG4.out, Or.inr ⟨s'', k'', skipAt t q1 + 1, ?_, by omega, by omega, hk2, rfl, HR4.out, HI4.out⟩⟩
   rw [HRes2.out, if_pos HEz.out]
  have HNE : Hid (hd (skip (rest t q1)) ≠ z) := he
  have HSS : Hid (skipAt t (skipAt t q1) = skipAt t q1) := skipAt_skipAt t q1 hq1
  have HSR : Hid (skip (rest t (skipAt t q1)) = skip (rest t q1)) := by
   show skip (rest t (skipAt t q1)) = skip (rest t q1)
   rw [rest_skip t q1 hq1, skip_skip]
  clear he
  go_wp2_with fail
  refine (takeSign_no b t q1 k'' z _ HR3.out hq1 ht HNE.out).mono ?_
  rintro e w4 ⟨rfl, g1, r1⟩
  have HG4 : Hid (G b w0 w4) := HG3.out.trans g1
  have HR4 : Hid (Rd b t (skipAt t q1) k'' w4) := r1
  have HI4 : Hid (Inv s'' k'' w4) := HK.out _ _ _ _ HI3.out g1
  clear g1 r1
  by_cases h44 : hd (skip (rest t q1)) = 44
  ·have hs1 := HSL.out q1 hq1 (by rw [h44]; decide)
   have H44 : Hid (hd (skip (rest t q1)) = 44) := h44
   clear h44
   go_wp2_with fail
   refine (takeSign_yes b t (skipAt t q1) k'' 44 _ HR4.out hle1 ht (by rw [HSR.out]; exact H44.out) (by decide)).mono ?_
   rintro e w5 ⟨rfl, g1, r1⟩
   have HG5 : Hid (G b w0 w5) := HG4.out.trans g1
   have HR5 : Hid (Rd b t (skipAt t q1 + 1) k'' w5) := by rw [HSS.out] at r1; exact r1
   have HI5 : Hid (Inv s'' k'' w5) := HK.out _ _ _ _ HI4.out g1
   clear g1 r1
   go_wp2_with fail
   go_roundw
   case rel => exact ⟨s'', k'', skipAt t q1 + 1, f, by omega, hk2, by omega, by omega, by rw [HRes2.out, if_neg HNE.out, if_pos H44.out], HI5.out, HR5.out, HG5.out⟩
   case measure => rw [HR5.out.placeOf_eq, HR'.out.placeOf_eq]; omega
  ·have HN44 : Hid (hd (skip (rest t q1)) ≠ 44) := h44
   clear h44
   go_wp2_with fail
   refine (takeSign_no b t (skipAt t q1) k'' 44 _ HR4.out hle1 ht (by rw [HSR.out]; exact HN44.out)).mono ?_
   rintro e w5 ⟨rfl, g1, r1⟩
   have HG5 : Hid (G b w0 w5) := HG4.out.trans g1
   have HE5 : Hid (EInv w5) := HE.out _ _ _ (HK.out _ _ _ _ HI4.out g1)
   clear g1 r1
   go_wp2_with fail
   go_ret
   exact ⟨HG5.out, Or.inl ⟨3, by rw [HRes2.out, if_neg HNE.out, if_neg HN44.out], by decide, by decide, rfl, HE5.out⟩⟩
theorem info_val : (Tryz.prog.info? 46).map (fun i => (i.zero, i.size, i.bytes)) = some (some .nilIface, 1, 16) := by kernel_rfl
theorem new_one (w : World) (x : Value) (e : TypeId) : ∀ (j : Nat) (u : Value), [x][j]? = some u -> (w.alloc (.cells #[x] e)).cell? ((⟨w.heap.size, 0, none⟩ : Addr).add j) = some u := by
 intro j u hj
 match j, hj with
 | 0, hj => simp at hj; subst hj; simp [Addr.add]
theorem one_of {x : Value} (h : x.oneCell' = true) : ∀ u ∈ [x], u.oneCell' = true := by
 intro u hu
 simp at hu
 subst hu
 exact h
theorem row_cells {w : World} {e size g n cap : Nat} {xs : List Value} (h : Row w e size g n cap xs) (o : Obj) : ∀ b, some (⟨g, 0, none⟩ : Addr) = some b -> ∀ (j : Nat) (u : Value), xs[j]? = some u -> (w.alloc o).cell? (b.add j) = some u := by
 intro b hb j u hu
 cases hb
 have h1 := h.cell j u hu
 rw [Addr.add_lit, Nat.zero_add]
 have h2 := World.cell?_of_block (w := w) (w' := w.alloc o) (a := ⟨g, j, none⟩) (Below.heap_alloc w o g h.lt)
 rw [h2]
 exact h1
set_option maxRecDepth 100000 in
set_option maxHeartbeats 4000000 in
theorem list_one (n b : Nat) (t : ByteArray) (d : Int) (c0 c1 c2 : Nat) (w0 : World) (hV : ValueOK n) (hd : d + n = 10) (hd0 : 0 <= d) (ht : t.size <= 2000) (hb : b < w0.heap.size)
  (k0 : w0.heap.size <= c0) (k1 : w0.heap.size <= c1) (k2 : w0.heap.size <= c2) (l0 : c0 < c2) (l1 : c1 < c2) :
  OneOK 84 #[.pointer (some ⟨c0, 0, none⟩), .pointer (some ⟨c1, 0, none⟩), .pointer (some ⟨c2, 0, none⟩)] b t w0 (oneItem (value n)) (LInv b d c0 c1 c2 w0.heap.size (c2 + 1) n) (LErr c2) := by
 intro s p k w hI hg hR hp hk
 obtain ⟨hsk, g, cap, vs, hx, hr, hgN, e0, e1, e2, hel⟩ := hI
 obtain ⟨i0, hi, hz0, hz1, hz2⟩ := info_parts info_val
 have a0 := cell_of_one hx.h0
 have a1 := cell_of_one hx.h1
 have hcw := lt_of_block hx.h2
 have hcap := hr.caps
 have HX : Hid (LBox b d c0 c1 c2 w (.slice (some ⟨g, 0, none⟩) s.length cap)) := hx
 have HRw : Hid (Row w 46 1 g s.length cap vs) := hr
 have HEl : Hid (∀ (i : Nat) (x : J n) (u : Value), s[i]? = some x -> vs[i]? = some u -> St (fun c => c < c2 + 1 ∨ c = g) w n x u) := hel
 have HR : Hid (Rd b t p k w) := hR
 have HG : Hid (G b w0 w) := hg
 have HV : Hid (ValueOK n) := hV
 have hgw := hr.lt
 clear hx hr hel hR hg hV
 go_enter Tryz.func84, Tryz.ntmps84
 go_wp2_with fail
 refine (HV.out b t p k d w HR.out hp ht hk hd hd0).mono ?_
 rintro e w1 ⟨g1, h1⟩
 have hx1 := HX.out.kept g1 (fun e => by cases e; omega) (fun e => by cases e; omega) (fun e => by cases e; omega)
 have hr1 : Row w1 46 1 g s.length cap vs := HRw.out.kept g1 (fun e => by cases e; omega)
 have b2 := cell_of_one hx1.h2
 have b3 := free_of_one hx1.h2
 have HX1 : Hid (LBox b d c0 c1 c2 w1 (.slice (some ⟨g, 0, none⟩) s.length cap)) := hx1
 have HRw1 : Hid (Row w1 46 1 g s.length cap vs) := hr1
 have HG1 : Hid (G b w w1) := g1
 have HG01 : Hid (G b w0 w1) := HG.out.trans g1
 have hc2w := lt_of_block hx1.h2
 clear hx1 hr1 g1 a0 a1
 rcases h1 with ⟨er, v, hv, her, her2, rfl, hone⟩ | ⟨j, k', q, v, hv, hpq, hq, hkk, hk2, rfl, hone, hR', hst⟩
 ·have HVal : Hid (value n k (rest t p) = .error er) := hv
  clear hv
  rcases hone with rfl | ⟨T, x, rfl⟩
  ·by_cases hroom : s.length + 1 <= cap
   ·skip
    go_wp2_with (at_builtin; refine wpList_append_fits _ rfl _ _ 78 rfl g 46 i0 1 Tryz.underlying78 hi hz1 g s.length cap vs rfl (World.ownsRow.alloc HRw1.out.owns _) ⟨w1.heap.size, 0, none⟩ 1 1 [.nilIface] rfl rfl (new_one _ _ _) (one_of rfl) hroom ?_)
    intro w2 hown hgrow
    have hrow : Row w2 46 1 g (s.length + 1) cap (vs ++ [.nilIface]) := Row.of_slice hown
    have hx2 := (HX1.out.kept (World.grownBy_alloc w1 _ none) (fun e => by cases e) (fun e => by cases e) (fun e => by cases e)).kept hgrow (fun e => by cases e; exact e0 rfl) (fun e => by cases e; exact e1 rfl) (fun e => by cases e; exact e2 rfl)
    have f2 := cell_of_one hx2.h2
    have f3 := free_of_one hx2.h2
    have HG2 : Hid (G b w0 w2) := (HG01.out.alloc _).grown hgrow (fun k e => by cases e; omega)
    have HX2 : Hid (LBox b d c0 c1 c2 w2 (.slice (some ⟨g, 0, none⟩) s.length cap)) := hx2
    clear hown hgrow hrow hx2 b2 b3
    go_wp2_with fail
    go_ret
    exact ⟨HG2.out.setNew k2 _, Or.inl ⟨er, by rw [oneItem, HVal.out], her, her2, rfl, ⟨_, _, _, one_setCell HX2.out.h2⟩⟩⟩
   ·skip
    go_wp2_with (at_builtin; refine wpList_append_grows _ rfl _ _ 78 rfl 46 i0 .nilIface 1 16 Tryz.underlying78 hi hz0 hz1 hz2 rfl (by decide) (some ⟨g, 0, none⟩) s.length cap vs rfl (fun e => by cases e) HRw1.out.1 (row_cells HRw1.out _) ⟨w1.heap.size, 0, none⟩ 1 1 [.nilIface] rfl rfl (new_one _ _ _) (one_of rfl) (by omega) (by unfold maxLen; omega) (by omega) ?_)
    intro v' w2 hown hgrow
    obtain ⟨g', cap', rfl, hg', hrow⟩ := Row.of_owns hown (by omega)
    have hg'' : w1.heap.size < g' := by (try simp at hg'); omega
    have hx2 := (HX1.out.kept (World.grownBy_alloc w1 _ none) (fun e => by cases e) (fun e => by cases e) (fun e => by cases e)).kept hgrow (fun e => by cases e) (fun e => by cases e) (fun e => by cases e)
    have f2 := cell_of_one hx2.h2
    have f3 := free_of_one hx2.h2
    have HG2 : Hid (G b w0 w2) := (HG01.out.alloc _).grown hgrow (fun k e => by cases e)
    have HX2 : Hid (LBox b d c0 c1 c2 w2 (.slice (some ⟨g, 0, none⟩) s.length cap)) := hx2
    clear hown hgrow hrow hx2 b2 b3
    go_wp2_with fail
    go_ret
    exact ⟨HG2.out.setNew k2 _, Or.inl ⟨er, by rw [oneItem, HVal.out], her, her2, rfl, ⟨_, _, _, one_setCell HX2.out.h2⟩⟩⟩
  ·by_cases hroom : s.length + 1 <= cap
   ·skip
    go_wp2_with (at_builtin; refine wpList_append_fits _ rfl _ _ 78 rfl g 46 i0 1 Tryz.underlying78 hi hz1 g s.length cap vs rfl (World.ownsRow.alloc HRw1.out.owns _) ⟨w1.heap.size, 0, none⟩ 1 1 [.iface T x] rfl rfl (new_one _ _ _) (one_of rfl) hroom ?_)
    intro w2 hown hgrow
    have hrow : Row w2 46 1 g (s.length + 1) cap (vs ++ [.iface T x]) := Row.of_slice hown
    have hx2 := (HX1.out.kept (World.grownBy_alloc w1 _ none) (fun e => by cases e) (fun e => by cases e) (fun e => by cases e)).kept hgrow (fun e => by cases e; exact e0 rfl) (fun e => by cases e; exact e1 rfl) (fun e => by cases e; exact e2 rfl)
    have f2 := cell_of_one hx2.h2
    have f3 := free_of_one hx2.h2
    have HG2 : Hid (G b w0 w2) := (HG01.out.alloc _).grown hgrow (fun k e => by cases e; omega)
    have HX2 : Hid (LBox b d c0 c1 c2 w2 (.slice (some ⟨g, 0, none⟩) s.length cap)) := hx2
    clear hown hgrow hrow hx2 b2 b3
    go_wp2_with fail
    go_ret
    exact ⟨HG2.out.setNew k2 _, Or.inl ⟨er, by rw [oneItem, HVal.out], her, her2, rfl, ⟨_, _, _, one_setCell HX2.out.h2⟩⟩⟩
   ·skip
    go_wp2_with (at_builtin; refine wpList_append_grows _ rfl _ _ 78 rfl 46 i0 .nilIface 1 16 Tryz.underlying78 hi hz0 hz1 hz2 rfl (by decide) (some ⟨g, 0, none⟩) s.length cap vs rfl (fun e => by cases e) HRw1.out.1 (row_cells HRw1.out _) ⟨w1.heap.size, 0, none⟩ 1 1 [.iface T x] rfl rfl (new_one _ _ _) (one_of rfl) (by omega) (by unfold maxLen; omega) (by omega) ?_)
    intro v' w2 hown hgrow
    obtain ⟨g', cap', rfl, hg', hrow⟩ := Row.of_owns hown (by omega)
    have hg'' : w1.heap.size < g' := by (try simp at hg'); omega
    have hx2 := (HX1.out.kept (World.grownBy_alloc w1 _ none) (fun e => by cases e) (fun e => by cases e) (fun e => by cases e)).kept hgrow (fun e => by cases e) (fun e => by cases e) (fun e => by cases e)
    have f2 := cell_of_one hx2.h2
    have f3 := free_of_one hx2.h2
    have HG2 : Hid (G b w0 w2) := (HG01.out.alloc _).grown hgrow (fun k e => by cases e)
    have HX2 : Hid (LBox b d c0 c1 c2 w2 (.slice (some ⟨g, 0, none⟩) s.length cap)) := hx2
    clear hown hgrow hrow hx2 b2 b3
    go_wp2_with fail
    go_ret
    exact ⟨HG2.out.setNew k2 _, Or.inl ⟨er, by rw [oneItem, HVal.out], her, her2, rfl, ⟨_, _, _, one_setCell HX2.out.h2⟩⟩⟩
 ·obtain ⟨T, x, rfl⟩ := hone
  have HVal : Hid (value n k (rest t p) = .ok (j, k', rest t q)) := hv
  have HR' : Hid (Rd b t q k' w1) := hR'
  have HSt : Hid (St (fun c => c < w.heap.size) w1 n j (.iface T x)) := hst
  clear hv hR' hst
  by_cases hroom : s.length + 1 <= cap
  ·skip
   go_wp2_with (at_builtin; refine wpList_append_fits _ rfl _ _ 78 rfl g 46 i0 1 Tryz.underlying78 hi hz1 g s.length cap vs rfl (World.ownsRow.alloc HRw1.out.owns _) ⟨w1.heap.size, 0, none⟩ 1 1 [.iface T x] rfl rfl (new_one _ _ _) (one_of rfl) hroom ?_)
   intro w2 hown hgrow
   have hrow : Row w2 46 1 g (s.length + 1) cap (vs ++ [.iface T x]) := Row.of_slice hown
   have hx2 := (HX1.out.kept (World.grownBy_alloc w1 _ none) (fun e => by cases e) (fun e => by cases e) (fun e => by cases e)).kept hgrow (fun e => by cases e; exact e0 rfl) (fun e => by cases e; exact e1 rfl) (fun e => by cases e; exact e2 rfl)
   have f2 := cell_of_one hx2.h2
   have f3 := free_of_one hx2.h2
   have HG2 : Hid (G b w0 w2) := (HG01.out.alloc _).grown hgrow (fun k e => by cases e; omega)
   have HX2 : Hid (LBox b d c0 c1 c2 w2 (.slice (some ⟨g, 0, none⟩) s.length cap)) := hx2
   have HL : Hid (LInv b d c0 c1 c2 w0.heap.size (c2 + 1) n (s ++ [j]) k' (w2.setCell ⟨c2, 0, none⟩ (.slice (some ⟨g, 0, none⟩) (s.length + 1) cap))) :=
    linv_step HX.out HRw.out hgN e0 e1 e2 HEl.out hb k0 k1 k2 (by omega) (by omega) (by omega) (by omega) (by omega) (by omega) (by omega) HG1.out HSt.out hgrow hrow (Or.inl ⟨rfl, rfl⟩) (by omega)
   have HR2 : Hid (Rd b t q k' (w2.setCell ⟨c2, 0, none⟩ (.slice (some ⟨g, 0, none⟩) (s.length + 1) cap))) :=
    (((HR'.out.alloc _).kept hgrow (fun e => by cases e; omega))).kept (grownBy_setCell w2 c2 0 _) (fun e => by cases e; omega)
   clear hown hgrow hrow hx2 b2 b3
   go_wp2_with fail
   go_ret
   exact ⟨HG2.out.setNew k2 _, Or.inr ⟨s ++ [j], k', q, by rw [oneItem, HVal.out], hpq, hq, hk2, rfl, HR2.out, HL.out⟩⟩
  ·skip
   go_wp2_with (at_builtin; refine wpList_append_grows _ rfl _ _ 78 rfl 46 i0 .nilIface 1 16 Tryz.underlying78 hi hz0 hz1 hz2 rfl (by decide) (some ⟨g, 0, none⟩) s.length cap vs rfl (fun e => by cases e) HRw1.out.1 (row_cells HRw1.out _) ⟨w1.heap.size, 0, none⟩ 1 1 [.iface T x] rfl rfl (new_one _ _ _) (one_of rfl) (by omega) (by unfold maxLen; omega) (by omega) ?_)
   intro v' w2 hown hgrow
   obtain ⟨g', cap', rfl, hg', hrow⟩ := Row.of_owns hown (by omega)
   have hg'' : w1.heap.size < g' := by (try simp at hg'); omega
   have hx2 := (HX1.out.kept (World.grownBy_alloc w1 _ none) (fun e => by cases e) (fun e => by cases e) (fun e => by cases e)).kept hgrow (fun e => by cases e) (fun e => by cases e) (fun e => by cases e)
   have f2 := cell_of_one hx2.h2
   have f3 := free_of_one hx2.h2
   have HG2 : Hid (G b w0 w2) := (HG01.out.alloc _).grown hgrow (fun k e => by cases e)
   have HX2 : Hid (LBox b d c0 c1 c2 w2 (.slice (some ⟨g, 0, none⟩) s.length cap)) := hx2
   have HL : Hid (LInv b d c0 c1 c2 w0.heap.size (c2 + 1) n (s ++ [j]) k' (w2.setCell ⟨c2, 0, none⟩ (.slice (some ⟨g', 0, none⟩) (s.length + 1) cap'))) :=
    linv_step HX.out HRw.out hgN e0 e1 e2 HEl.out hb k0 k1 k2 (by omega) (by omega) (by omega) (by omega) (by omega) (by omega) (by omega) HG1.out HSt.out hgrow hrow (Or.inr ⟨rfl, hg''⟩) (by omega)
   have HR2 : Hid (Rd b t q k' (w2.setCell ⟨c2, 0, none⟩ (.slice (some ⟨g', 0, none⟩) (s.length + 1) cap'))) :=
    (((HR'.out.alloc _).kept hgrow (fun e => by cases e))).kept (grownBy_setCell w2 c2 0 _) (fun e => by cases e; omega)
   clear hown hgrow hrow hx2 b2 b3
   go_wp2_with fail
   go_ret
   exact ⟨HG2.out.setNew k2 _, Or.inr ⟨s ++ [j], k', q, by rw [oneItem, HVal.out], hpq, hq, hk2, rfl, HR2.out, HL.out⟩⟩
theorem linv_start (b : Nat) (d : Int) (n k : Nat) (w : World) (hb : b < w.heap.size) :
  LInv b d w.heap.size (w.heap.size + 1) (w.heap.size + 1 + 1 + 1) w.heap.size (w.heap.size + 1 + 1 + 1 + 1) n [] k ((((w.alloc (.cells #[.pointer (some ⟨b, 0, none⟩)] 97)).alloc (.cells #[.int .i64 d] 3)).alloc (.cells #[] 46)).alloc (.cells #[.slice (some ⟨w.heap.size + 1 + 1, 0, none⟩) 0 0] 78)) := by
 have hz : ∀ (x : World) (o : Obj), (x.alloc o).heap.size = x.heap.size + 1 := fun x o => by simp
 generalize e1 : w.alloc (.cells #[.pointer (some ⟨b, 0, none⟩)] 97) = w1
 generalize e2 : w1.alloc (.cells #[.int .i64 d] 3) = w2
 generalize e3 : w2.alloc (.cells #[] 46) = w3
 have z1 : w1.heap.size = w.heap.size + 1 := by rw [<- e1, hz]
 have z2 : w2.heap.size = w.heap.size + 1 + 1 := by rw [<- e2, hz, z1]
 have z3 : w3.heap.size = w.heap.size + 1 + 1 + 1 := by rw [<- e3, hz, z2]
 have b0 : w1.heap[w.heap.size]? = some (.cells #[.pointer (some ⟨b, 0, none⟩)] 97 (0, 0)) := by rw [<- e1]; exact heap_alloc_new w _
 have b1 : w2.heap[w.heap.size + 1]? = some (.cells #[.int .i64 d] 3 (0, 0)) := by rw [<- e2, <- z1]; exact heap_alloc_new w1 _
 have b2 : w3.heap[w.heap.size + 1 + 1]? = some (.cells #[] 46 (0, 0)) := by rw [<- e3, <- z2]; exact heap_alloc_new w2 _
 have up2 : ∀ c, c < w1.heap.size -> w2.heap[c]? = w1.heap[c]? := fun c hc => by rw [<- e2]; exact Below.heap_alloc w1 _ c hc
 have up3 : ∀ c, c < w2.heap.size -> w3.heap[c]? = w2.heap[c]? := fun c hc => by rw [<- e3]; exact Below.heap_alloc w2 _ c hc
 have up4 : ∀ o c, c < w3.heap.size -> (w3.alloc o).heap[c]? = w3.heap[c]? := fun o c hc => Below.heap_alloc w3 _ c hc
 refine ⟨Nat.zero_le _, w.heap.size + 1 + 1, 0, [], ⟨?_, ?_, ?_⟩, ⟨rfl, #[], ?_, Nat.le_refl _, by unfold maxLen; omega, rfl, rfl⟩, by omega, by omega, by omega, by omega, fun i x u hx _ => by simp at hx⟩
 ·rw [up4 _ _ (by omega), up3 _ (by omega), up2 _ (by omega)]; exact b0
 ·rw [up4 _ _ (by omega), up3 _ (by omega)]; exact b1
 ·rw [<- z3]; exact heap_alloc_new w3 _
 ·rw [up4 _ _ (by omega)]; exact b2
def ListPost (b : Nat) (t : ByteArray) (p k n : Nat) (w : World) (e : Ending) (w' : World) : Prop :=
 G b w w' /\ ((∃ (er : Nat) (v : Value), row 93 (oneItem (value n)) [] k (rest t p) = .error er /\ er ≠ 0 /\ er < 100 /\ e = .returned (.tuple #[v, .int .i64 er]) /\ (v = .nilIface ∨ ∃ T x, v = .iface T x)) ∨
  ∃ (s : List (J n)) (k' q : Nat) (v : Value), row 93 (oneItem (value n)) [] k (rest t p) = .ok (s, k', rest t q) /\ p < q /\ q <= t.size /\ k' <= 200 /\ e = .returned (.tuple #[v, .int .i64 0]) /\ (∃ T x, v = .iface T x) /\ Rd b t q k' w' /\ St (fun c => c < w.heap.size) w' (n + 1) (Sum.inr (Sum.inl s)) v)
set_option maxRecDepth 100000 in
set_option maxHeartbeats 4000000 in
theorem list_any (n b : Nat) (t : ByteArray) (p k : Nat) (d : Int) (w : World) (hV : ValueOK n) (hd : d + n = 10) (hd0 : 0 <= d) (h : Rd b t p k w) (hlt : p < t.size) (ht : t.size <= 2000) (hk : k <= 200) :
  Calls Tryz.prog 60 #[.pointer (some ⟨b, 0, none⟩), .int .i64 d] w (ListPost b t p k n w) := by
 have hbw := h.lt
 have HR : Hid (Rd b t p k w) := h
 have HV : Hid (ValueOK n) := hV
 clear h hV
 have HL : Hid (LInv b d w.heap.size (w.heap.size + 1) (w.heap.size + 1 + 1 + 1) w.heap.size (w.heap.size + 1 + 1 + 1 + 1) n [] k ((((w.alloc (.cells #[.pointer (some ⟨b, 0, none⟩)] 97)).alloc (.cells #[.int .i64 d] 3)).alloc (.cells #[] 46)).alloc (.cells #[.slice (some ⟨w.heap.size + 1 + 1, 0, none⟩) 0 0] 78))) := linv_start b d n k w hbw
 go_enter Tryz.func60, Tryz.ntmps60
 go_wp2_with fail
 refine (row_list b t p k w.heap.size (w.heap.size + 1) (w.heap.size + 1 + 1 + 1) 93 [] w _ (oneItem (value n)) (LInv b d w.heap.size (w.heap.size + 1) (w.heap.size + 1 + 1 + 1) w.heap.size (w.heap.size + 1 + 1 + 1 + 1) n) (LErr (w.heap.size + 1 + 1 + 1))
  ((((HR.out.alloc _).alloc _).alloc _).alloc _) hlt ht hk HL.out (((((G.refl b w).alloc _).alloc _).alloc _).alloc _) (by decide)
  (list_one n b t d _ _ _ w HV.out hd hd0 ht hbw (by omega) (by omega) (by omega) (by omega) (by omega))
  (fun s k w1 w2 hi hg => hi.kept hg hbw (by omega) (by omega) (by omega) (by omega)) (fun s k w1 hi => hi.err)).mono ?_
 rintro e w1 ⟨g1, h1⟩
 have HG1 : Hid (G b w w1) := g1
 clear g1 HL
 rcases h1 with ⟨er, hr, her, h100, rfl, he⟩ | ⟨s, k', q, hr, hpq, hq, hk2, rfl, hR, hI⟩
 ·obtain ⟨a, m, cap, hc⟩ := he
  have c2 := cell_of_one hc
  have HRw : Hid (row 93 (oneItem (value n)) [] k (rest t p) = .error er) := hr
  clear hr hc
  go_wp2_with fail
  go_ret2
  exact ⟨HG1.out, Or.inl ⟨er, _, HRw.out, her, h100, rfl, Or.inr ⟨_, _, rfl⟩⟩⟩
 ·obtain ⟨hsk, g, cap, vs, hx, hrw, hgN, e0, e1, e2, hel⟩ := hI
  have c2 := cell_of_one hx.h2
  have HRw : Hid (row 93 (oneItem (value n)) [] k (rest t p) = .ok (s, k', rest t q)) := hr
  have HR1 : Hid (Rd b t q k' w1) := hR
  have HS : Hid (St (fun c => c < w.heap.size) w1 (n + 1) (Sum.inr (Sum.inl s)) (.iface 78 (.slice (some ⟨g, 0, none⟩) s.length cap))) :=
   st_list (vs := vs) (by have := hrw.1; omega) hrw.caps.1 hrw.caps.2 (by omega) hrw.lt (fun i u hu => hrw.cell i u hu) (fun i x u hx hu => (hel i x u hx hu).mono (fun c _ hc => Or.inl (by omega)))
  clear hr hx hrw hel hR
  go_wp2_with fail
  go_ret2
  exact ⟨HG1.out, Or.inr ⟨s, k', q, _, HRw.out, hpq, hq, hk2, rfl, ⟨_, _, rfl⟩, HR1.out, HS.out⟩⟩
set_option maxRecDepth 100000 in
set_option maxHeartbeats 1000000 in
theorem cmp_field (a nm : ByteArray) (v : Value) (w : World) :
  Calls Tryz.prog 114 #[.agg #[.string a, v], .string nm] w fun e w' => e = .returned (.int .i64 (Lib.compareBytes a.data.toList nm.data.toList)) /\ Below w.heap.size w w' := by
 go_enter Tryz.func114, Tryz.ntmps114
 go_wp2_with fail
 refine (Tryz.strings_Compare a nm _).mono ?_
 rintro e w1 ⟨rfl, rfl⟩
 go_wp2_with fail
 go_ret
 exact ⟨rfl, (Below.refl _ _).alloc (Nat.le_refl _) _⟩
def Fields {α : Type} (w : World) (g : Nat) (fs : List (Bs × α)) (vs : List Value) : Prop :=
 vs.length = fs.length /\ ∀ (i : Nat) (f : Bs × α) (u : Value), fs[i]? = some f -> vs[i]? = some u -> w.cell? ⟨g, i * 2, none⟩ = some (.string ⟨f.1.toArray⟩) /\ w.cell? ⟨g, i * 2 + 1, none⟩ = some u
theorem Fields.at {α : Type} {w : World} {g : Nat} {fs : List (Bs × α)} {vs : List Value} (h : Fields w g fs vs) {i : Nat} (hi : i < fs.length) :
  ∃ (f : Bs × α) (u : Value), fs[i]? = some f /\ w.cell? ⟨g, i * 2, none⟩ = some (.string ⟨f.1.toArray⟩) /\ w.cell? ⟨g, i * 2 + 1, none⟩ = some u := by
 have hv : i < vs.length := by have := h.1; omega
 have h1 := h.2 i fs[i] vs[i] (List.getElem?_eq_getElem hi) (List.getElem?_eq_getElem hv)
 exact ⟨fs[i], vs[i], List.getElem?_eq_getElem hi, h1.1, h1.2⟩
theorem Fields.below {α : Type} {w w' : World} {g : Nat} {fs : List (Bs × α)} {vs : List Value} (h : Fields w g fs vs) (hb : Below w.heap.size w w') (hg : g < w.heap.size) : Fields w' g fs vs :=
 ⟨h.1, fun i f u hf hu => by
  have := h.2 i f u hf hu
  rw [hb.cell (p := ⟨g, i * 2, none⟩) hg, hb.cell (p := ⟨g, i * 2 + 1, none⟩) hg]
  exact this⟩
def LoP {α : Type} (fs : List (Bs × α)) (nm : Bs) (i : Nat) : Prop := ∀ (x : Nat) (f : Bs × α), x < i -> fs[x]? = some f -> less f.1 nm = true
def HiP {α : Type} (fs : List (Bs × α)) (nm : Bs) (j : Nat) : Prop := ∀ (x : Nat) (f : Bs × α), j <= x -> fs[x]? = some f -> less f.1 nm = false
theorem lo_zero {α : Type} (fs : List (Bs × α)) (nm : Bs) : LoP fs nm 0 := fun x f hx _ => absurd hx (Nat.not_lt_zero _)
theorem hi_end {α : Type} (fs : List (Bs × α)) (nm : Bs) : HiP fs nm fs.length := fun x f hx hf => by rw [List.getElem?_eq_none hx] at hf; cases hf
theorem lo_step {α : Type} {fs : List (Bs × α)} {nm : Bs} {h : Nat} {f : Bs × α} (hr : Rising fs) (hf : fs[h]? = some f) (hc : Lib.compareBytes f.1 nm < 0) : LoP fs nm (h + 1) := by
 intro x g hx hg
 rcases Nat.lt_succ_iff_lt_or_eq.1 hx with hx | rfl
 ·have h1 := rising_get hr hx hg hf
  rw [less_iff] at h1 ⊢
  exact cmp_trans _ _ _ h1 hc
 ·rw [hf] at hg
  cases hg
  exact (less_iff _ _).2 hc
theorem hi_step {α : Type} {fs : List (Bs × α)} {nm : Bs} {h : Nat} {f : Bs × α} (hr : Rising fs) (hf : fs[h]? = some f) (hc : ¬ Lib.compareBytes f.1 nm < 0) : HiP fs nm h := by
 intro x g hx hg
 rcases Nat.lt_or_eq_of_le hx with hx | rfl
 ·have h1 := rising_get hr hx hf hg
  rw [<- Bool.not_eq_true]
  intro h2
  rw [less_iff] at h1 h2
  exact hc (cmp_trans _ _ _ h1 h2)
 ·rw [hf] at hg
  cases hg
  rw [<- Bool.not_eq_true, less_iff]
  exact hc
theorem search_end {α : Type} {fs : List (Bs × α)} {nm : Bs} {i : Nat} (hi : i <= fs.length) (h1 : LoP fs nm i) (h2 : HiP fs nm i) : placeOfName fs nm = i :=
 place_of fs nm i hi h1 (fun f hf => h2 i f (Nat.le_refl _) hf)
set_option maxRecDepth 100000 in
set_option maxHeartbeats 2000000 in
theorem search_any {α : Type} (g cap : Nat) (fs : List (Bs × α)) (vs : List Value) (nm : ByteArray) (w : World) (hF : Fields w g fs vs) (hg : g < w.heap.size) (hr : Rising fs) (hl : fs.length <= 2000) (hc : fs.length <= cap) (hcm : cap <= maxLen) :
  Calls Tryz.prog 113 #[.slice (some ⟨g, 0, none⟩) fs.length cap, .string nm, .func (.func 114) #[] #[]] w fun e w' =>
   e = .returned (.tuple #[.int .i64 (placeOfName fs nm.data.toList), .bool (fs.any fun f => f.1 == nm.data.toList)]) /\ Below w.heap.size w w' := by
 unfold maxLen at hcm
 have HF : Hid (Fields w g fs vs) := hF
 have HRi : Hid (Rising fs) := hr
 clear hF hr
 go_enter Tryz.func113, Tryz.ntmps113
 go_wp2_with fail
 go_loopw [9, 10] (fun x y wr => ∃ i j : Nat, x = .int .i64 i /\ y = .int .i64 j /\ i <= j /\ j <= fs.length /\ LoP fs nm.data.toList i /\ HiP fs nm.data.toList j /\ Below w.heap.size w wr) (fun x y _ => (intOf y).toNat - (intOf x).toNat)
 case atStart => exact ⟨0, fs.length, rfl, rfl, Nat.zero_le _, Nat.le_refl _, lo_zero _ _, hi_end _ _, Below.refl _ _⟩
 case round =>
  obtain ⟨i, j, rfl, rfl, hij, hj, hlo, hhi, hbel⟩ := hrel
  have HLo : Hid (LoP fs nm.data.toList i) := hlo
  have HHi : Hid (HiP fs nm.data.toList j) := hhi
  have HB : Hid (Below w.heap.size w wr) := hbel
  clear hlo hhi hbel
  by_cases hlt : i < j
  ·obtain ⟨f, u, hf, hc1, hc2⟩ := (HF.out.below HB.out hg).at (i := (i + j) / 2) (by omega)
   have hh1 : (i + j) / 2 < fs.length := by omega
   have HFh : Hid (fs[(i + j) / 2]? = some f) := hf
   clear hf
   go_wp2_with fail
   refine (cmp_field ⟨f.1.toArray⟩ nm u wr).mono ?_
   rintro e w1 ⟨rfl, b1⟩
   have HB1 : Hid (Below w.heap.size w w1) := HB.out.trans (b1.mono HB.out.size)
   clear b1 hc1 hc2
   by_cases hcmp : Lib.compareBytes f.1 nm.data.toList < 0
   ·have HC : Hid (Lib.compareBytes f.1 nm.data.toList < 0) := hcmp
    go_wp2_with fail
    go_roundw
    case rel => exact ⟨(i + j) / 2 + 1, j, by go_num, rfl, by omega, hj, lo_step HRi.out HFh.out HC.out, HHi.out, HB1.out⟩
    case measure => simp [intOf]; omega
   ·have HC : Hid (¬ Lib.compareBytes f.1 nm.data.toList < 0) := hcmp
    go_wp2_with fail
    go_roundw
    case rel => exact ⟨i, (i + j) / 2, rfl, by go_num, by omega, by omega, HLo.out, hi_step HRi.out HFh.out (by have := HC.out; omega), HB1.out⟩
    case measure => simp [intOf]; omega
  ·have hij' : i = j := by omega
   subst hij'
   have HP : Hid (placeOfName fs nm.data.toList = i) := search_end hj HLo.out HHi.out
   have HA : Hid ((fs.any fun f => f.1 == nm.data.toList) = (match fs[i]? with | none => false | some f => decide (Lib.compareBytes f.1 nm.data.toList = 0))) := by
    have := any_place HRi.out nm.data.toList
    rw [HP.out] at this
    exact this
   by_cases hn : i < fs.length
   ·obtain ⟨f, u, hf, hc1, hc2⟩ := (HF.out.below HB.out hg).at hn
    have HA2 : Hid ((fs.any fun f => f.1 == nm.data.toList) = decide (Lib.compareBytes f.1 nm.data.toList = 0)) := by
     have := HA.out
     rw [hf] at this
     exact this
    clear hf
    go_wp2_with fail
    refine (cmp_field ⟨f.1.toArray⟩ nm u wr).mono ?_
    rintro e w1 ⟨rfl, b1⟩
    have HB1 : Hid (Below w.heap.size w w1) := HB.out.trans (b1.mono HB.out.size)
    clear b1 hc1 hc2
    go_wp2_with fail
    go_ret2
    refine ⟨?_, HB1.out⟩
    rw [HP.out, HA2.out]
    rfl
   ·have HA2 : Hid ((fs.any fun f => f.1 == nm.data.toList) = false) := by
     have := HA.out
     rw [List.getElem?_eq_none (by omega)] at this
     exact this
    have hnb : decide ((i : Int) < (fs.length : Int)) = false := decide_eq_false (by omega)
    go_wp2_with fail
    go_ret2
    refine ⟨?_, HB.out⟩
    rw [HP.out, HA2.out]
    rfl
theorem find_any {α : Type} (g cap : Nat) (fs : List (Bs × α)) (vs : List Value) (nm : ByteArray) (w : World) (hF : Fields w g fs vs) (hg : g < w.heap.size) (hr : Rising fs) (hl : fs.length <= 2000) (hc : fs.length <= cap) (hcm : cap <= maxLen) :
  Calls Tryz.prog 100 #[.slice (some ⟨g, 0, none⟩) fs.length cap, .string nm] w fun e w' =>
   e = .returned (.tuple #[.int .i64 (placeOfName fs nm.data.toList), .bool (fs.any fun f => f.1 == nm.data.toList)]) /\ Below w.heap.size w w' := by
 have hS := search_any g cap fs vs nm w hF hg hr hl hc hcm
 generalize (fs.any fun f => f.1 == nm.data.toList) = fo at hS ⊢
 generalize placeOfName fs nm.data.toList = pl at hS ⊢
 have HS : Hid (Calls Tryz.prog 113 #[.slice (some ⟨g, 0, none⟩) fs.length cap, .string nm, .func (.func 114) #[] #[]] w fun e w' => e = .returned (.tuple #[.int .i64 pl, .bool fo]) /\ Below w.heap.size w w') := hS
 clear hS hF hr
 go_enter Tryz.func100, Tryz.ntmps100
 go_wp2_with fail
 refine Calls.mono HS.out ?_
 rintro e w1 ⟨rfl, b1⟩
 have HB : Hid (Below w.heap.size w w1) := b1
 clear b1
 go_wp2_with fail
 go_ret2
 exact ⟨rfl, HB.out⟩
set_option maxHeartbeats 400000 in
theorem meaning_any (c : UInt8) (w : World) : Calls Tryz.prog 97 #[.int .u8 c.toNat] w fun e w' => e = .returned (.int .u8 (meaning c).toNat) /\ w' = w := by
 by_cases h34 : c = 34
 ·subst h34
  go_enter Tryz.func97, Tryz.ntmps97
  go_wp2
  go_ret
  exact ⟨rfl, rfl⟩
 by_cases h92 : c = 92
 ·subst h92
  go_enter Tryz.func97, Tryz.ntmps97
  go_wp2
  go_ret
  exact ⟨rfl, rfl⟩
 by_cases h110 : c = 110
 ·subst h110
  go_enter Tryz.func97, Tryz.ntmps97
  go_wp2
  go_ret
  exact ⟨rfl, rfl⟩
 by_cases h116 : c = 116
 ·subst h116
  go_enter Tryz.func97, Tryz.ntmps97
  go_wp2
  go_ret
  exact ⟨rfl, rfl⟩
 have e : meaning c = 0 := by simp [meaning, h34, h92, h110, h116]
 have b1 := ne_bool 34 (by decide) h34
 have b2 := ne_bool 92 (by decide) h92
 have b3 := ne_bool 110 (by decide) h110
 have b4 := ne_bool 116 (by decide) h116
 clear h34 h92 h110 h116
 rw [e]
 clear e
 go_enter Tryz.func97, Tryz.ntmps97
 go_wp2
 go_ret
 exact ⟨rfl, rfl⟩
theorem plain_int (c : UInt8) : plain c = (decide ((32 : Int) <= (c.toNat : Int)) && decide ((c.toNat : Int) <= 126)) := by
 unfold plain
 congr 1
 ·rw [decide_eq_decide, UInt8.le_iff_toNat_le]
  show 32 <= c.toNat ↔ _
  omega
 ·rw [decide_eq_decide, UInt8.le_iff_toNat_le]
  show c.toNat <= 126 ↔ _
  omega
set_option maxHeartbeats 400000 in
theorem isPlain_any (c : UInt8) (w : World) : Calls Tryz.prog 98 #[.int .u8 c.toNat] w fun e w' => e = .returned (.bool (plain c)) /\ w' = w := by
 rw [plain_int]
 go_enter Tryz.func98, Tryz.ntmps98
 go_wp2
 all_goals go_ret
 all_goals (refine ⟨?_, rfl⟩; simp [*] <;> omega)
set_option maxHeartbeats 400000 in
theorem sign_esc (b : Nat) (t : ByteArray) (p k : Nat) (w : World) (h : Rd b t p k w) (ht : t.size <= 2000) (hc : hd (rest t p) = 92) (hm : meaning (hd (rest t (p + 1))) ≠ 0) :
  Calls Tryz.prog 82 #[.pointer (some ⟨b, 0, none⟩)] w fun e w' => e = .returned (.int .u8 (meaning (hd (rest t (p + 1)))).toNat) /\ G b w w' /\ Rd b t (p + 2) k w' := by
 have hlt : p < t.size := lt_of_hd (by rw [hc]; decide)
 have hlt2 : p + 1 < t.size := lt_of_hd (fun e => hm (by rw [e]; rfl))
 have hb : (((meaning (hd (rest t (p + 1)))).toNat : Int) != 0) = true := bool_ne (d := 0) hm
 have HR : Hid (Rd b t p k w) := h
 have HC : Hid (hd (rest t p) = 92) := hc
 clear h hc hm
 go_enter Tryz.func82, Tryz.ntmps82
 go_wp2_with fail
 refine (take_yes b t p k 92 _ HR.out ht hlt HC.out).mono ?_
 rintro e w1 ⟨rfl, g1, r1⟩
 have HG1 : Hid (G b w w1) := g1
 have HR1 : Hid (Rd b t (p + 1) k w1) := r1
 clear g1 r1
 go_wp2_with fail
 refine (next_g b t (p + 1) k _ HR1.out (by omega) ht).mono ?_
 rintro e w2 ⟨rfl, g1, r1⟩
 have HG2 : Hid (G b w w2) := HG1.out.trans g1
 have HR2 : Hid (Rd b t (p + 1) k w2) := r1
 have c1 := r1.place
 have c2 := r1.free 1
 clear g1 r1
 go_wp2_with fail
 refine (meaning_any _ _).mono ?_
 rintro e w3 ⟨rfl, rfl⟩
 go_wp2_with fail
 go_ret
 refine ⟨rfl, ?_, ?_⟩
 ·exact HG2.out.setCell 1 _
 ·exact HR2.out.move (p + 2)
set_option maxHeartbeats 400000 in
theorem sign_plain (b : Nat) (t : ByteArray) (p k : Nat) (w : World) (h : Rd b t p k w) (ht : t.size <= 2000) (hc : hd (rest t p) ≠ 92) (hm : plain (hd (rest t p)) = true) :
  Calls Tryz.prog 82 #[.pointer (some ⟨b, 0, none⟩)] w fun e w' => e = .returned (.int .u8 (hd (rest t p)).toNat) /\ G b w w' /\ Rd b t (p + 1) k w' := by
 have h0 : hd (rest t p) ≠ 0 := fun e => by rw [e] at hm; exact absurd hm (by decide)
 have hlt : p < t.size := lt_of_hd h0
 have hb : (((hd (rest t p)).toNat : Int) != 0) = true := bool_ne (d := 0) h0
 have HR : Hid (Rd b t p k w) := h
 have HC : Hid (hd (rest t p) ≠ 92) := hc
 clear h hc h0
 go_enter Tryz.func82, Tryz.ntmps82
 go_wp2_with fail
 refine (take_no b t p k 92 _ HR.out (by omega) ht HC.out).mono ?_
 rintro e w1 ⟨rfl, g1, r1⟩
 have HG1 : Hid (G b w w1) := g1
 have HR1 : Hid (Rd b t p k w1) := r1
 clear g1 r1
 go_wp2_with fail
 refine (next_g b t p k _ HR1.out (by omega) ht).mono ?_
 rintro e w2 ⟨rfl, g1, r1⟩
 have HG2 : Hid (G b w w2) := HG1.out.trans g1
 have HR2 : Hid (Rd b t p k w2) := r1
 clear g1 r1
 go_wp2_with fail
 refine (isPlain_any _ _).mono ?_
 rintro e w3 ⟨rfl, rfl⟩
 go_wp2_with fail
 refine (next_g b t p k _ HR2.out (by omega) ht).mono ?_
 rintro e w4 ⟨rfl, g1, r1⟩
 have HG4 : Hid (G b w w4) := HG2.out.trans g1
 have HR4 : Hid (Rd b t p k w4) := r1
 have c1 := r1.place
 have c2 := r1.free 1
 clear g1 r1
 go_wp2_with fail
 go_ret
 refine ⟨rfl, ?_, ?_⟩
 ·exact HG4.out.setCell 1 _
 ·exact HR4.out.move (p + 1)
set_option maxHeartbeats 400000 in
theorem sign_bad1 (b : Nat) (t : ByteArray) (p k : Nat) (w : World) (h : Rd b t p k w) (ht : t.size <= 2000) (hc : hd (rest t p) = 92) (hm : meaning (hd (rest t (p + 1))) = 0) :
  Calls Tryz.prog 82 #[.pointer (some ⟨b, 0, none⟩)] w fun e w' => e = .returned (.int .u8 0) /\ G b w w' := by
 have hlt : p < t.size := lt_of_hd (by rw [hc]; decide)
 have HR : Hid (Rd b t p k w) := h
 have HC : Hid (hd (rest t p) = 92) := hc
 have HM : Hid (meaning (hd (rest t (p + 1))) = 0) := hm
 clear h hc hm
 go_enter Tryz.func82, Tryz.ntmps82
 go_wp2_with fail
 refine (take_yes b t p k 92 _ HR.out ht hlt HC.out).mono ?_
 rintro e w1 ⟨rfl, g1, r1⟩
 have HG1 : Hid (G b w w1) := g1
 have HR1 : Hid (Rd b t (p + 1) k w1) := r1
 clear g1 r1
 go_wp2_with fail
 refine (next_g b t (p + 1) k _ HR1.out (by omega) ht).mono ?_
 rintro e w2 ⟨rfl, g1, r1⟩
 have HG2 : Hid (G b w w2) := HG1.out.trans g1
 clear g1 r1
 go_wp2_with fail
 refine (meaning_any _ _).mono ?_
 rintro e w3 ⟨rfl, rfl⟩
 rw [HM.out]
 go_wp2_with fail
 go_ret
 exact ⟨rfl, HG2.out⟩
set_option maxHeartbeats 400000 in
theorem sign_bad2 (b : Nat) (t : ByteArray) (p k : Nat) (w : World) (h : Rd b t p k w) (hp : p <= t.size) (ht : t.size <= 2000) (hc : hd (rest t p) ≠ 92) (hm : plain (hd (rest t p)) = false) :
  Calls Tryz.prog 82 #[.pointer (some ⟨b, 0, none⟩)] w fun e w' => e = .returned (.int .u8 0) /\ G b w w' := by
 have HR : Hid (Rd b t p k w) := h
 have HC : Hid (hd (rest t p) ≠ 92) := hc
 clear h hc
 go_enter Tryz.func82, Tryz.ntmps82
 go_wp2_with fail
 refine (take_no b t p k 92 _ HR.out hp ht HC.out).mono ?_
 rintro e w1 ⟨rfl, g1, r1⟩
 have HG1 : Hid (G b w w1) := g1
 have HR1 : Hid (Rd b t p k w1) := r1
 clear g1 r1
 go_wp2_with fail
 refine (next_g b t p k _ HR1.out hp ht).mono ?_
 rintro e w2 ⟨rfl, g1, r1⟩
 have HG2 : Hid (G b w w2) := HG1.out.trans g1
 clear g1 r1
 go_wp2_with fail
 refine (isPlain_any _ _).mono ?_
 rintro e w3 ⟨rfl, rfl⟩
 go_wp2_with fail
 go_ret
 exact ⟨rfl, HG2.out⟩
theorem signs_end {t : ByteArray} {q : Nat} (h : hd (rest t q) = 34) : signs (rest t q) = some ([], rest t (q + 1)) := by
 have hlt : q < t.size := lt_of_hd (by rw [h]; decide)
 rw [hd_lt hlt] at h
 rw [rest_cons hlt, signs_cons, if_pos h]
theorem signs_esc {t : ByteArray} {q : Nat} (h : hd (rest t q) = 92) (hm : meaning (hd (rest t (q + 1))) ≠ 0) : signs (rest t q) = (signs (rest t (q + 2))).map fun p => (meaning (hd (rest t (q + 1))) :: p.1, p.2) := by
 have hlt : q < t.size := lt_of_hd (by rw [h]; decide)
 have hlt2 : q + 1 < t.size := lt_of_hd (fun e => hm (by rw [e]; rfl))
 rw [hd_lt hlt] at h
 rw [hd_lt hlt2] at hm ⊢
 rw [rest_cons hlt, signs_cons, h, rest_cons hlt2]
 simp [hm]
theorem signs_esc_bad {t : ByteArray} {q : Nat} (h : hd (rest t q) = 92) (hm : meaning (hd (rest t (q + 1))) = 0) : signs (rest t q) = none := by
 have hlt : q < t.size := lt_of_hd (by rw [h]; decide)
 rw [hd_lt hlt] at h
 rw [rest_cons hlt, signs_cons, h]
 rcases Nat.lt_or_ge (q + 1) t.size with h' | h'
 ·rw [hd_lt h'] at hm
  rw [rest_cons h']
  simp [hm]
 ·rw [rest_nil h']
  simp
theorem signs_plain {t : ByteArray} {q : Nat} (h34 : hd (rest t q) ≠ 34) (h92 : hd (rest t q) ≠ 92) (hp : plain (hd (rest t q)) = true) : signs (rest t q) = (signs (rest t (q + 1))).map fun p => (hd (rest t q) :: p.1, p.2) := by
 have hlt : q < t.size := lt_of_hd (fun e => by rw [e] at hp; exact absurd hp (by decide))
 rw [hd_lt hlt] at h34 h92 hp ⊢
 rw [rest_cons hlt, signs_cons, if_neg h34, if_neg h92, if_pos hp]
theorem signs_plain_bad {t : ByteArray} {q : Nat} (h34 : hd (rest t q) ≠ 34) (h92 : hd (rest t q) ≠ 92) (hp : plain (hd (rest t q)) = false) : signs (rest t q) = none := by
 rcases Nat.lt_or_ge q t.size with h' | h'
 ·rw [hd_lt h'] at h34 h92 hp
  rw [rest_cons h', signs_cons, if_neg h34, if_neg h92, if_neg (by simp [hp])]
 ·rw [rest_nil h', signs_nil]
def Gathered (t : ByteArray) (p q : Nat) (l : Bs) : Prop := signs (rest t p) = (signs (rest t q)).map fun r => (l ++ r.1, r.2)
theorem gathered_nil (t : ByteArray) (p : Nat) : Gathered t p p [] := by
 unfold Gathered
 cases signs (rest t p) <;> simp
theorem gathered_step {t : ByteArray} {p q q' : Nat} {l : Bs} {c : UInt8} (h : Gathered t p q l) (hs : signs (rest t q) = (signs (rest t q')).map fun r => (c :: r.1, r.2)) : Gathered t p q' (l ++ [c]) := by
 unfold Gathered at h ⊢
 rw [h, hs, Option.map_map]
 congr 1
 funext r
 simp
set_option maxRecDepth 100000 in
set_option maxHeartbeats 2000000 in
theorem quoted_any (b : Nat) (t : ByteArray) (p k : Nat) (w : World) (h : Rd b t p k w) (hp : p <= t.size) (ht : t.size <= 2000) :
  Calls Tryz.prog 59 #[.pointer (some ⟨b, 0, none⟩)] w fun e w' => G b w w' /\
   ((quoted (rest t p) = none /\ e = .returned (.tuple #[.string ByteArray.empty, .int .i64 3])) ∨
    ∃ l q, quoted (rest t p) = some (l, rest t q) /\ p < q /\ q <= t.size /\ e = .returned (.tuple #[.string ⟨l.toArray⟩, .int .i64 0]) /\ Rd b t q k w') := by
 obtain ⟨i0, hi, hz0, hz1, hz2⟩ := info_parts info_u8
 have hbl := h.lt
 have HR : Hid (Rd b t p k w) := h
 clear h
 by_cases hc : hd (rest t p) = 34
 ·have hq : quoted (rest t p) = signs (rest t (p + 1)) := by rw [quoted, if_pos hc, rest_tail]
  rw [hq]
  have hlt : p < t.size := lt_of_hd (by rw [hc]; decide)
  have HC : Hid (hd (rest t p) = 34) := hc
  clear hc hq
  go_enter Tryz.func59, Tryz.ntmps59
  go_wp2_with fail
  refine (take_yes b t p k 34 _ HR.out ht hlt HC.out).mono ?_
  rintro e w1 ⟨rfl, g1, r1⟩
  have HG1 : Hid (G b w w1) := g1
  have HR1 : Hid (Rd b t (p + 1) k w1) := r1
  clear g1 r1
  go_wp2_with fail
  go_loopw [4] (fun v wr => ∃ l q, p < q /\ q <= t.size /\ l.length <= q /\ Gathered t (p + 1) q l /\ Own w.heap.size wr v l /\ Rd b t q k wr /\ G b w wr) (fun _ wr => t.size - placeOf b wr)
  case atStart => exact ⟨[], p + 1, by omega, by omega, by simp, gathered_nil _ _, Own.nil _ _, HR1.out, HG1.out⟩
  case round =>
   obtain ⟨l, q, hpq, hq, hl, hga, hown, hR, hG⟩ := hrel
   have HGa : Hid (Gathered t (p + 1) q l) := hga
   have HO : Hid (Own w.heap.size wr u4 l) := hown
   have HR : Hid (Rd b t q k wr) := hR
   have HG : Hid (G b w wr) := hG
   clear hga hown hR hG
   by_cases h34 : hd (rest t q) = 34
   ·have H34 : Hid (hd (rest t q) = 34) := h34
    have hlq : q < t.size := lt_of_hd (by rw [h34]; decide)
    clear h34
    go_wp2_with fail
    refine (take_yes b t q k 34 _ HR.out ht hlq H34.out).mono ?_
    rintro e w2 ⟨rfl, g1, r1⟩
    have HG2 : Hid (G b w w2) := HG.out.trans g1
    have HR2 : Hid (Rd b t (q + 1) k w2) := r1
    have hcv := conv_own (HO.out.kept g1 hbl)
    clear g1 r1
    go_wp2_with fail
    go_ret2
    refine ⟨HG2.out, Or.inr ⟨l, q + 1, ?_, by omega, by omega, rfl, HR2.out⟩⟩
    have := HGa.out
    unfold Gathered at this
    rw [this, signs_end H34.out]
    simp
   have HN34 : Hid (hd (rest t q) ≠ 34) := h34
   clear h34
   by_cases h92 : hd (rest t q) = 92
   ·by_cases hm : meaning (hd (rest t (q + 1))) = 0
    ·have H92 : Hid (hd (rest t q) = 92) := h92
     have HM : Hid (meaning (hd (rest t (q + 1))) = 0) := hm
     clear h92 hm
     go_wp2_with fail
     refine (take_no b t q k 34 _ HR.out hq ht HN34.out).mono ?_
     rintro e w2 ⟨rfl, g1, r1⟩
     have HG2 : Hid (G b w w2) := HG.out.trans g1
     have HR2 : Hid (Rd b t q k w2) := r1
     clear g1 r1
     go_wp2_with fail
     refine (sign_bad1 b t q k _ HR2.out ht H92.out HM.out).mono ?_
     rintro e w3 ⟨rfl, g1⟩
     have HG3 : Hid (G b w w3) := HG2.out.trans g1
     clear g1
     go_wp2_with fail
     go_ret2
     refine ⟨HG3.out, Or.inl ⟨?_, rfl⟩⟩
     have := HGa.out
     unfold Gathered at this
     rw [this, signs_esc_bad H92.out HM.out]
     rfl
    ·have H92 : Hid (hd (rest t q) = 92) := h92
     have HM : Hid (meaning (hd (rest t (q + 1))) ≠ 0) := hm
     have hlq2 : q + 1 < t.size := lt_of_hd (fun e => hm (by rw [e]; rfl))
     have hb : (((meaning (hd (rest t (q + 1)))).toNat : Int) == 0) = false := ne_bool 0 (by decide) hm
     clear h92 hm
     go_wp2_with fail
     refine (take_no b t q k 34 _ HR.out hq ht HN34.out).mono ?_
     rintro e w2 ⟨rfl, g1, r1⟩
     have HG2 : Hid (G b w w2) := HG.out.trans g1
     have HR2 : Hid (Rd b t q k w2) := r1
     have HO2 : Hid (Own w.heap.size w2 u4 l) := HO.out.kept g1 hbl
     clear g1 r1
     go_wp2_with fail
     refine (sign_esc b t q k _ HR2.out ht H92.out HM.out).mono ?_
     rintro e w3 ⟨rfl, g1, r1⟩
     have HG3 : Hid (G b w w3) := HG2.out.trans g1
     have HR3 : Hid (Rd b t (q + 2) k w3) := r1
     have HO3 : Hid (Own w.heap.size w3 u4 l) := HO2.out.kept g1 hbl
     clear g1 r1
     go_wp2_with (at_builtin; refine wpList_append_own _ rfl _ _ 95 rfl w.heap.size 5 i0 (.int .u8 0) 1 1 Tryz.underlying95 hi hz0 hz1 hz2 rfl (by decide) _ _ _ rfl (HO3.out.alloc _) ⟨w3.heap.size, 0, none⟩ 1 1 [.int .u8 (meaning (hd (rest t (q + 1)))).toNat] rfl rfl ?c1 ?c2 ?c3 ?c4 ?c5 ?_)
     case c1 =>
      intro j u hj
      match j, hj with
      | 0, hj => simp at hj; subst hj; simp [Addr.add]
     case c2 => intro u hu; simp at hu; subst hu; rfl
     case c3 => unfold maxLen; omega
     case c4 => omega
     case c5 => have := HG3.out.size; simp; omega
     intro v' w4 hown' hgrow _
     have HO4 : Hid (Own w.heap.size w4 v' (l ++ [meaning (hd (rest t (q + 1)))])) := by
      rw [cells_snoc] at hown'
      have e : (l ++ [meaning (hd (rest t (q + 1)))]).length = l.length + 1 := by simp
      unfold Own
      rw [e]
      exact hown'
     have HR4 : Hid (Rd b t (q + 2) k w4) := (HR3.out.alloc _).kept hgrow (fun e => by have := HO3.out.row b e.symm; omega)
     have HG4 : Hid (G b w w4) := (HG3.out.alloc _).grown hgrow HO3.out.row
     clear hown' hgrow
     go_wp2_with fail
     go_roundw
     case rel => exact ⟨l ++ [meaning (hd (rest t (q + 1)))], q + 2, by omega, by omega, by simp; omega, gathered_step HGa.out (signs_esc H92.out HM.out), HO4.out, HR4.out, HG4.out⟩
     case measure => rw [HR4.out.placeOf_eq, HR.out.placeOf_eq]; omega
   by_cases hm : plain (hd (rest t q)) = true
   ·have H92 : Hid (hd (rest t q) ≠ 92) := h92
    have HM : Hid (plain (hd (rest t q)) = true) := hm
    have h0 : hd (rest t q) ≠ 0 := fun e => by rw [e] at hm; exact absurd hm (by decide)
    have hlq : q < t.size := lt_of_hd h0
    have hb : (((hd (rest t q)).toNat : Int) == 0) = false := ne_bool 0 (by decide) h0
    clear h92 hm h0
    go_wp2_with fail
    refine (take_no b t q k 34 _ HR.out hq ht HN34.out).mono ?_
    rintro e w2 ⟨rfl, g1, r1⟩
    have HG2 : Hid (G b w w2) := HG.out.trans g1
    have HR2 : Hid (Rd b t q k w2) := r1
    have HO2 : Hid (Own w.heap.size w2 u4 l) := HO.out.kept g1 hbl
    clear g1 r1
    go_wp2_with fail
    refine (sign_plain b t q k _ HR2.out ht H92.out HM.out).mono ?_
    rintro e w3 ⟨rfl, g1, r1⟩
    have HG3 : Hid (G b w w3) := HG2.out.trans g1
    have HR3 : Hid (Rd b t (q + 1) k w3) := r1
    have HO3 : Hid (Own w.heap.size w3 u4 l) := HO2.out.kept g1 hbl
    clear g1 r1
    go_wp2_with (at_builtin; refine wpList_append_own _ rfl _ _ 95 rfl w.heap.size 5 i0 (.int .u8 0) 1 1 Tryz.underlying95 hi hz0 hz1 hz2 rfl (by decide) _ _ _ rfl (HO3.out.alloc _) ⟨w3.heap.size, 0, none⟩ 1 1 [.int .u8 (hd (rest t q)).toNat] rfl rfl ?d1 ?d2 ?d3 ?d4 ?d5 ?_)
    case d1 =>
     intro j u hj
     match j, hj with
     | 0, hj => simp at hj; subst hj; simp [Addr.add]
    case d2 => intro u hu; simp at hu; subst hu; rfl
    case d3 => unfold maxLen; omega
    case d4 => omega
    case d5 => have := HG3.out.size; simp; omega
    intro v' w4 hown' hgrow _
    have HO4 : Hid (Own w.heap.size w4 v' (l ++ [hd (rest t q)])) := by
     rw [cells_snoc] at hown'
     have e : (l ++ [hd (rest t q)]).length = l.length + 1 := by simp
     unfold Own
     rw [e]
     exact hown'
    have HR4 : Hid (Rd b t (q + 1) k w4) := (HR3.out.alloc _).kept hgrow (fun e => by have := HO3.out.row b e.symm; omega)
    have HG4 : Hid (G b w w4) := (HG3.out.alloc _).grown hgrow HO3.out.row
    clear hown' hgrow
    go_wp2_with fail
    go_roundw
    case rel => exact ⟨l ++ [hd (rest t q)], q + 1, by omega, by omega, by simp; omega, gathered_step HGa.out (signs_plain HN34.out H92.out HM.out), HO4.out, HR4.out, HG4.out⟩
    case measure => rw [HR4.out.placeOf_eq, HR.out.placeOf_eq]; omega
   ·have H92 : Hid (hd (rest t q) ≠ 92) := h92
    have HM : Hid (plain (hd (rest t q)) = false) := by show plain (hd (rest t q)) = false; simpa using hm
    clear h92 hm
    go_wp2_with fail
    refine (take_no b t q k 34 _ HR.out hq ht HN34.out).mono ?_
    rintro e w2 ⟨rfl, g1, r1⟩
    have HG2 : Hid (G b w w2) := HG.out.trans g1
    have HR2 : Hid (Rd b t q k w2) := r1
    clear g1 r1
    go_wp2_with fail
    refine (sign_bad2 b t q k _ HR2.out hq ht H92.out HM.out).mono ?_
    rintro e w3 ⟨rfl, g1⟩
    have HG3 : Hid (G b w w3) := HG2.out.trans g1
    clear g1
    go_wp2_with fail
    go_ret2
    refine ⟨HG3.out, Or.inl ⟨?_, rfl⟩⟩
    have := HGa.out
    unfold Gathered at this
    rw [this, signs_plain_bad HN34.out H92.out HM.out]
    rfl
 ·have hq : quoted (rest t p) = none := by rw [quoted, if_neg hc]
  have HC : Hid (hd (rest t p) ≠ 34) := hc
  rw [hq]
  clear hc hq
  go_enter Tryz.func59, Tryz.ntmps59
  go_wp2_with fail
  refine (take_no b t p k 34 _ HR.out hp ht HC.out).mono ?_
  rintro e w1 ⟨rfl, g1, r1⟩
  have HG1 : Hid (G b w w1) := g1
  clear g1 r1
  go_wp2_with fail
  go_ret2
  exact ⟨HG1.out, Or.inl ⟨trivial, rfl⟩⟩
theorem G.below {b : Nat} {w0 w w' : World} (h : G b w0 w) (g : Below w.heap.size w w') : G b w0 w' :=
 h.trans ⟨g.os, g.tape, g.output, g.size, fun k hk _ => g.block k hk⟩
theorem Rd.below {b : Nat} {t : ByteArray} {p k : Nat} {w w' : World} (h : Rd b t p k w) (g : Below w.heap.size w w') : Rd b t p k w' := (g.block b h.lt).trans h
theorem Fields.kept {α : Type} {w w' : World} {g b : Nat} {fs : List (Bs × α)} {vs : List Value} (h : Fields w g fs vs) (hb : G b w w') (hg : g < w.heap.size) (hne : g ≠ b) : Fields w' g fs vs :=
 ⟨h.1, fun i f u hf hu => by
  have := h.2 i f u hf hu
  have e : w'.heap[g]? = w.heap[g]? := hb.block g hg (fun e => hne (by cases e; rfl))
  rw [World.cell?_of_block (w := w) (w' := w') (a := ⟨g, i * 2, none⟩) e, World.cell?_of_block (w := w) (w' := w') (a := ⟨g, i * 2 + 1, none⟩) e]
  exact this⟩
def NamePost {α : Type} (b : Nat) (t : ByteArray) (p k : Nat) (fs : List (Bs × α)) (w : World) (e : Ending) (w' : World) : Prop :=
 G b w w' /\ ((∃ er : Nat, nameE fs (rest t p) = .error er /\ er ≠ 0 /\ er < 100 /\ e = .returned (.tuple #[.int .i64 0, .string ByteArray.empty, .int .i64 er])) ∨
  ∃ nm q, nameE fs (rest t p) = .ok (nm, rest t q) /\ p < q /\ q <= t.size /\ (fs.any fun f => f.1 == nm) = false /\ e = .returned (.tuple #[.int .i64 (placeOfName fs nm), .string ⟨nm.toArray⟩, .int .i64 0]) /\ Rd b t q k w')
set_option maxRecDepth 100000 in
set_option maxHeartbeats 2000000 in
theorem name_any {α : Type} (b : Nat) (t : ByteArray) (p k g cap : Nat) (fs : List (Bs × α)) (vs : List Value) (w : World) (h : Rd b t p k w) (hp : p <= t.size) (ht : t.size <= 2000)
  (hF : Fields w g fs vs) (hg : g < w.heap.size) (hgb : g ≠ b) (hr : Rising fs) (hl : fs.length <= 2000) (hc : fs.length <= cap) (hcm : cap <= maxLen) :
  Calls Tryz.prog 86 #[.pointer (some ⟨b, 0, none⟩), .slice (some ⟨g, 0, none⟩) fs.length cap] w (NamePost b t p k fs w) := by
 have HR : Hid (Rd b t p k w) := h
 have HF : Hid (Fields w g fs vs) := hF
 have HRi : Hid (Rising fs) := hr
 have hsl := skipAt_le t p
 have hsg := skipAt_ge t p hp
 have HSk : Hid (rest t (skipAt t p) = skip (rest t p)) := rest_skip t p hp
 clear h hF hr
 go_enter Tryz.func86, Tryz.ntmps86
 go_wp2_with fail
 refine (skipBlanks_any b t p k _ HR.out hp ht).mono ?_
 rintro e w1 ⟨rfl, g1, r1⟩
 have HG1 : Hid (G b w w1) := g1
 have HR1 : Hid (Rd b t (skipAt t p) k w1) := r1
 clear g1 r1
 go_wp2_with fail
 refine (quoted_any b t (skipAt t p) k _ HR1.out hsl ht).mono ?_
 rintro e w2 ⟨g2, h2⟩
 have HG2 : Hid (G b w w2) := HG1.out.trans g2
 clear g2
 rw [HSk.out] at h2
 rcases h2 with ⟨hq, rfl⟩ | ⟨nm, q, hq, hpq, hqs, rfl, r2⟩
 ·have HQ : Hid (quoted (skip (rest t p)) = none) := hq
  clear hq
  go_wp2_with fail
  go_ret3
  exact ⟨HG2.out, Or.inl ⟨3, by rw [nameE, HQ.out], by decide, by decide, rfl⟩⟩
 have HQ : Hid (quoted (skip (rest t p)) = some (nm, rest t q)) := hq
 have HR2 : Hid (Rd b t q k w2) := r2
 have HN : Hid (nameE fs (rest t p) = if (fs.any fun f => f.1 == nm) = true then .error eTwice else if hd (skip (rest t q)) = 58 then .ok (nm, (skip (rest t q)).tail) else .error eSyntax) := by
  show nameE fs (rest t p) = _
  rw [nameE, HQ.out]
 have HF2 : Hid (Fields w2 g fs vs) := HF.out.kept HG2.out hg hgb
 have hg2 : g < w2.heap.size := by have := HG2.out.size; omega
 clear hq r2
 go_wp2_with fail
 have hfi := find_any g cap fs vs ⟨nm.toArray⟩ w2 HF2.out hg2 HRi.out hl hc hcm
 have HFi : Hid (Calls Tryz.prog 100 #[.slice (some ⟨g, 0, none⟩) fs.length cap, .string ⟨nm.toArray⟩] w2 fun e w' => e = .returned (.tuple #[.int .i64 (placeOfName fs nm), .bool (fs.any fun f => f.1 == nm)]) /\ Below w2.heap.size w2 w') := hfi
 clear hfi
 refine Calls.mono HFi.out ?_
 rintro e w3 ⟨rfl, b3⟩
 have HG3 : Hid (G b w w3) := HG2.out.below b3
 have HR3 : Hid (Rd b t q k w3) := HR2.out.below b3
 clear b3 HFi
 cases hany : (fs.any fun f => f.1 == nm) with
 | true =>
  have HA : Hid ((fs.any fun f => f.1 == nm) = true) := hany
  clear hany
  go_wp2_with fail
  go_ret3
  exact ⟨HG3.out, Or.inl ⟨5, by rw [HN.out, if_pos HA.out], by decide, by decide, rfl⟩⟩
 | false =>
  have HA : Hid ((fs.any fun f => f.1 == nm) = false) := hany
  have HTL : Hid ((skip (rest t q)).tail = rest t (skipAt t q + 1)) := by
   show (skip (rest t q)).tail = _
   rw [<- rest_skip t q hqs, rest_tail]
  have hge := skipAt_ge t q hqs
  clear hany
  by_cases h58 : hd (skip (rest t q)) = 58
  ·have H58 : Hid (hd (skip (rest t q)) = 58) := h58
   have hs1 : skipAt t q < t.size := lt_of_hd (by rw [rest_skip t q hqs, h58]; decide)
   clear h58
   go_wp2_with fail
   refine (takeSign_yes b t q k 58 _ HR3.out hqs ht H58.out (by decide)).mono ?_
   rintro e w4 ⟨rfl, g4, r4⟩
   have HG4 : Hid (G b w w4) := HG3.out.trans g4
   have HR4 : Hid (Rd b t (skipAt t q + 1) k w4) := r4
   clear g4 r4
   go_wp2_with fail
   go_ret3
   refine ⟨HG4.out, Or.inr ⟨nm, skipAt t q + 1, ?_, by omega, by omega, HA.out, rfl, HR4.out⟩⟩
   rw [HN.out, if_neg (by rw [HA.out]; decide), if_pos H58.out, HTL.out]
  ·have H58 : Hid (hd (skip (rest t q)) ≠ 58) := h58
   clear h58
   go_wp2_with fail
   refine (takeSign_no b t q k 58 _ HR3.out hqs ht H58.out).mono ?_
   rintro e w4 ⟨rfl, g4, r4⟩
   have HG4 : Hid (G b w w4) := HG3.out.trans g4
   clear g4 r4
   go_wp2_with fail
   go_ret3
   exact ⟨HG4.out, Or.inl ⟨3, by rw [HN.out, if_neg (by rw [HA.out]; decide), if_neg H58.out], by decide, by decide, rfl⟩⟩
end Go.Proofs.YtjcdklbimaclkaaGreatDoor
