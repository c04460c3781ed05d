/- Contracts of the reader's methods over this translation: blanks, signs behind blanks. -/
import Derived.Test.YtaogilpkeeigoaaGreatDoorRd
namespace Go.Proofs.YtaogilpkeeigoaaGreatDoor
open Go.RowKit
set_option linter.unusedVariables false
set_option linter.unusedSimpArgs false
def placeOf (b : Nat) (w : World) : Nat := (intOf ((w.cell? ⟨b, 1, none⟩).getD undef)).toNat
theorem Rd.placeOf_eq {b : Nat} {t : ByteArray} {p k : Nat} {w : World} (h : Rd b t p k w) : placeOf b w = p := by
  unfold placeOf
  rw [h.place]
  simp [intOf]
set_option maxHeartbeats 1000000 in
theorem skipBlanks_any (b : Nat) (t : ByteArray) (p k : Nat) (w : World) (h : Rd b t p k w) (hp : p ≤ t.size) (ht : t.size ≤ 2000) :
    Calls Tryz.prog 43 #[.pointer (some ⟨b, 0, none⟩)] w fun e w' => e = .returned (.tuple #[]) ∧ G b w w' ∧ Rd b t (skipAt t p) k w' := by
  have HR : Hid (Rd b t p k w) := h
  clear h
  go_enter Tryz.func43, Tryz.ntmps43
  go_wp2_with fail
  go_loopw [2] (fun _ wr => ∃ q, q ≤ t.size ∧ skipAt t q = skipAt t p ∧ Rd b t q k wr ∧ G b w wr) (fun _ wr => t.size - placeOf b wr)
  case atStart => exact ⟨p, hp, rfl, HR.out, G.refl _ _⟩
  case round =>
    obtain ⟨q, hq, hs, hR, hG⟩ := hrel
    have HS : Hid (skipAt t q = skipAt t p) := hs
    have HR : Hid (Rd b t q k wr) := hR
    have HG : Hid (G b w wr) := hG
    clear hs hR hG
    by_cases h32 : hd (rest t q) = 32
    · have hlt : q < t.size := lt_of_hd (by rw [h32]; decide)
      have H32 : Hid (hd (rest t q) = 32) := h32
      clear h32
      go_wp2_with fail
      refine (take_yes b t q k 32 _ HR.out ht hlt H32.out).mono ?_
      rintro e w1 ⟨rfl, g1, r1⟩
      have HG1 : Hid (G b w w1) := HG.out.trans g1
      have HR1 : Hid (Rd b t (q + 1) k w1) := r1
      clear g1 r1
      go_wp2_with fail
      go_roundw
      case rel => exact ⟨q + 1, by omega, by rw [← HS.out, skipAt_step (p := q) (by rw [H32.out]; decide)], HR1.out, HG1.out⟩
      case measure => rw [HR1.out.placeOf_eq, HR.out.placeOf_eq]; omega
    have HN32 : Hid (hd (rest t q) ≠ 32) := h32
    clear h32
    by_cases h10 : hd (rest t q) = 10
    · have hlt : q < t.size := lt_of_hd (by rw [h10]; decide)
      have H10 : Hid (hd (rest t q) = 10) := h10
      clear h10
      go_wp2_with fail
      refine (take_no b t q k 32 _ HR.out hq ht HN32.out).mono ?_
      rintro e w1 ⟨rfl, g1, r1⟩
      have HG1 : Hid (G b w w1) := HG.out.trans g1
      have HR1 : Hid (Rd b t q k w1) := r1
      clear g1 r1
      go_wp2_with fail
      refine (take_yes b t q k 10 _ HR1.out ht hlt H10.out).mono ?_
      rintro e w2 ⟨rfl, g1, r1⟩
      have HG2 : Hid (G b w w2) := HG1.out.trans g1
      have HR2 : Hid (Rd b t (q + 1) k w2) := r1
      clear g1 r1
      go_wp2_with fail
      go_roundw
      case rel => exact ⟨q + 1, by omega, by rw [← HS.out, skipAt_step (p := q) (by rw [H10.out]; decide)], HR2.out, HG2.out⟩
      case measure => rw [HR2.out.placeOf_eq, HR.out.placeOf_eq]; omega
    have HN10 : Hid (hd (rest t q) ≠ 10) := h10
    clear h10
    by_cases h9 : hd (rest t q) = 9
    · have hlt : q < t.size := lt_of_hd (by rw [h9]; decide)
      have H9 : Hid (hd (rest t q) = 9) := h9
      clear h9
      go_wp2_with fail
      refine (take_no b t q k 32 _ HR.out hq ht HN32.out).mono ?_
      rintro e w1 ⟨rfl, g1, r1⟩
      have HG1 : Hid (G b w w1) := HG.out.trans g1
      have HR1 : Hid (Rd b t q k w1) := r1
      clear g1 r1
      go_wp2_with fail
      refine (take_no b t q k 10 _ HR1.out hq ht HN10.out).mono ?_
      rintro e w2 ⟨rfl, g1, r1⟩
      have HG2 : Hid (G b w w2) := HG1.out.trans g1
      have HR2 : Hid (Rd b t q k w2) := r1
      clear g1 r1
      go_wp2_with fail
      refine (take_yes b t q k 9 _ HR2.out ht hlt H9.out).mono ?_
      rintro e w3 ⟨rfl, g1, r1⟩
      have HG3 : Hid (G b w w3) := HG2.out.trans g1
      have HR3 : Hid (Rd b t (q + 1) k w3) := r1
      clear g1 r1
      go_wp2_with fail
      go_roundw
      case rel => exact ⟨q + 1, by omega, by rw [← HS.out, skipAt_step (p := q) (by rw [H9.out]; decide)], HR3.out, HG3.out⟩
      case measure => rw [HR3.out.placeOf_eq, HR.out.placeOf_eq]; omega
    have HN9 : Hid (hd (rest t q) ≠ 9) := h9
    clear h9
    go_wp2_with fail
    refine (take_no b t q k 32 _ HR.out hq ht HN32.out).mono ?_
    rintro e w1 ⟨rfl, g1, r1⟩
    have HG1 : Hid (G b w w1) := HG.out.trans g1
    have HR1 : Hid (Rd b t q k w1) := r1
    clear g1 r1
    go_wp2_with fail
    refine (take_no b t q k 10 _ HR1.out hq ht HN10.out).mono ?_
    rintro e w2 ⟨rfl, g1, r1⟩
    have HG2 : Hid (G b w w2) := HG1.out.trans g1
    have HR2 : Hid (Rd b t q k w2) := r1
    clear g1 r1
    go_wp2_with fail
    refine (take_no b t q k 9 _ HR2.out hq ht HN9.out).mono ?_
    rintro e w3 ⟨rfl, g1, r1⟩
    have HG3 : Hid (G b w w3) := HG2.out.trans g1
    have HR3 : Hid (Rd b t q k w3) := r1
    clear g1 r1
    go_wp2_with fail
    go_end0
    exact ⟨rfl, HG3.out, by
      rw [← HS.out, skipAt_stop hq (by have h1 := HN32.out; have h2 := HN10.out; have h3 := HN9.out; simp [blank, h1, h2, h3])]
      exact HR3.out⟩
set_option maxHeartbeats 400000 in
theorem takeSign_no (b : Nat) (t : ByteArray) (p k : Nat) (c : UInt8) (w : World) (h : Rd b t p k w) (hp : p ≤ t.size) (ht : t.size ≤ 2000) (hc : hd (skip (rest t p)) ≠ c) :
    Calls Tryz.prog 110 #[.pointer (some ⟨b, 0, none⟩), .int .u8 c.toNat] w fun e w' => e = .returned (.bool false) ∧ G b w w' ∧ Rd b t (skipAt t p) k w' := by
  have HR : Hid (Rd b t p k w) := h
  have HC : Hid (hd (skip (rest t p)) ≠ c) := hc
  clear h hc
  go_enter Tryz.func110, Tryz.ntmps110
  go_wp2_with fail
  refine (skipBlanks_any b t p k _ HR.out hp ht).mono ?_
  rintro e w1 ⟨rfl, g1, r1⟩
  have HG1 : Hid (G b w w1) := g1
  have HR1 : Hid (Rd b t (skipAt t p) k w1) := r1
  clear g1 r1
  go_wp2_with fail
  refine (take_no b t (skipAt t p) k c _ HR1.out (skipAt_le t p) ht (by rw [rest_skip t p hp]; exact HC.out)).mono ?_
  rintro e w2 ⟨rfl, g1, r1⟩
  have HG2 : Hid (G b w w2) := HG1.out.trans g1
  have HR2 : Hid (Rd b t (skipAt t p) k w2) := r1
  clear g1 r1
  go_wp2_with fail
  go_ret
  exact ⟨rfl, HG2.out, HR2.out⟩
set_option maxHeartbeats 400000 in
theorem takeSign_yes (b : Nat) (t : ByteArray) (p k : Nat) (c : UInt8) (w : World) (h : Rd b t p k w) (hp : p ≤ t.size) (ht : t.size ≤ 2000) (hc : hd (skip (rest t p)) = c) (h0 : c ≠ 0) :
    Calls Tryz.prog 110 #[.pointer (some ⟨b, 0, none⟩), .int .u8 c.toNat] w fun e w' => e = .returned (.bool true) ∧ G b w w' ∧ Rd b t (skipAt t p + 1) k w' := by
  have HR : Hid (Rd b t p k w) := h
  have HC : Hid (hd (skip (rest t p)) = c) := hc
  clear h hc
  go_enter Tryz.func110, Tryz.ntmps110
  go_wp2_with fail
  refine (skipBlanks_any b t p k _ HR.out hp ht).mono ?_
  rintro e w1 ⟨rfl, g1, r1⟩
  have HG1 : Hid (G b w w1) := g1
  have HR1 : Hid (Rd b t (skipAt t p) k w1) := r1
  clear g1 r1
  go_wp2_with fail
  refine (take_yes b t (skipAt t p) k c _ HR1.out ht (lt_of_hd (by rw [rest_skip t p hp, HC.out]; exact h0)) (by rw [rest_skip t p hp]; exact HC.out)).mono ?_
  rintro e w2 ⟨rfl, g1, r1⟩
  have HG2 : Hid (G b w w2) := HG1.out.trans g1
  have HR2 : Hid (Rd b t (skipAt t p + 1) k w2) := r1
  clear g1 r1
  go_wp2_with fail
  go_ret
  exact ⟨rfl, HG2.out, HR2.out⟩
end Go.Proofs.YtaogilpkeeigoaaGreatDoor
