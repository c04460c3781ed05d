/- Contract over this translation: what the document's Hex answers. -/
import Derived.Test.YtmbpjbghhimedaaDoorSlRfBits
import Derived.Test.YtmbpjbghhimedaaDoorSlHex
import Derived.BigQuiet
namespace Go.Proofs.YtmbpjbghhimedaaDoor
open Go.RowKit
set_option linter.unusedVariables false
set_option linter.unusedSimpArgs false
theorem hex_part (i : Nat) (h : i < 16) : (((⟨#[48, 49, 50, 51, 52, 53, 54, 55, 56, 57, 97, 98, 99, 100, 101, 102]⟩ : ByteArray).extract i 16).extract 0 1) = Ba [hx i] := by
  have : i = 0 ∨ i = 1 ∨ i = 2 ∨ i = 3 ∨ i = 4 ∨ i = 5 ∨ i = 6 ∨ i = 7 ∨ i = 8 ∨ i = 9 ∨ i = 10 ∨ i = 11 ∨ i = 12 ∨ i = 13 ∨ i = 14 ∨ i = 15 := by omega
  rcases this with rfl | rfl | rfl | rfl | rfl | rfl | rfl | rfl | rfl | rfl | rfl | rfl | rfl | rfl | rfl | rfl
  all_goals decide +kernel
set_option maxRecDepth 100000 in
set_option maxHeartbeats 4000000 in
theorem refhex_any (s : Bs) (w : World) (hs : s.length ≤ 4194304) :
    Calls Tryd.prog 11 #[.string (Ba s)] w fun e w' => e = .returned (.string (Ba (hexP s))) ∧ Below w.heap.size w w' := by
  have hsz : (Ba s).size = s.length := ba_size s
  have HB0 : Hid (Below w.heap.size w w) := Below.refl _ _
  have HT : Hid (∀ k (h : k < s.length), hexP (s.take (k + 1)) = hexP (s.take k) ++ ([hx (s[k].toNat / 16)] ++ [hx (s[k].toNat % 16)])) := fun k h => by
    show _ = _
    rw [hexP_take s k h]
    rfl
  have HL : Hid (∀ k, (hexP (s.take k)).length ≤ 2 * s.length) := fun k => by
    show _ ≤ _
    rw [hexP_length, List.length_take]
    omega
  have HE : Hid (hexP (s.take s.length) = hexP s) := by show _ = _; rw [List.take_length]
  have H0 : Hid (hexP (s.take 0) = []) := rfl
  go_enter Tryd.func11, Tryd.ntmps11
  go_wp2_with fail
  go_loopw [3, 7] (fun o i wr => ∃ k : Nat, k ≤ s.length ∧ i = .int .i64 k ∧ o = .string (Ba (hexP (s.take k))) ∧ Below w.heap.size w wr) (fun _ i _ => s.length - (intOf i).toNat)
  case atStart => exact ⟨0, Nat.zero_le _, rfl, by rw [H0.out], HB0.out⟩
  case round =>
    obtain ⟨k, hk, rfl, rfl, hbel⟩ := hrel
    have HB : Hid (Below w.heap.size w wr) := hbel
    clear hbel
    by_cases hlt : k < s.length
    · have HTk : Hid (_) := HT.out k hlt
      have hal := HL.out k
      have hgt : (Ba s)[k]'(by rw [ba_size]; exact hlt) = s[k] := ba_get s k hlt
      have hc : s[k].toNat < 256 := s[k].toNat_lt
      have hkI : (k : Int) < (s.length : Int) := by omega
      generalize han : hexP (s.take (k + 1)) = an at *
      generalize hexP (s.take k) = ak at *
      generalize s[k] = x at *
      have HP1 : Hid (_) := hex_part (x.toNat / 16) (by omega)
      have HP2 : Hid (_) := hex_part (x.toNat % 16) (by omega)
      go_wp2_with fail
      go_quiet (fail)
      have HBq : Hid (Below w.heap.size w (wr.drewN nq)) := below_drewN HB.out _
      generalize wr.drewN nq = wq at *
      clear HB
      go_wp2_with fail
      go_roundw
      case rel => exact ⟨k + 1, by omega, by go_num, by rw [HP1.out, HP2.out, ba_append, ba_append, han, HTk.out], HBq.out⟩
      case measure => simp [intOf]; omega
    · have hke : k = s.length := by omega
      have hres : Hid (Ba (hexP (s.take k)) = Ba (hexP s)) := by show _ = _; rw [hke, HE.out]
      have hkI : ¬ ((k : Int) < (s.length : Int)) := by omega
      clear hke
      go_wp2_with fail
      go_ret
      exact ⟨by rw [hres.out]; rfl, HB.out⟩
end Go.Proofs.YtmbpjbghhimedaaDoor
