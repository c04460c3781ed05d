/- Contracts over this translation: signs that stand for nothing; steps as they are meant and written. -/
import Derived.Test.YtaogilpkeeigoabGreatDoorRepPlain
import Derived.Test.YtaogilpkeeigoabGreatDoorRestPlain
import Derived.Test.YtaogilpkeeigoabGreatDoorShelf
import Derived.WalkKit
import Derived.WalkSpells
import Derived.BigQuiet
namespace Go.Proofs.YtaogilpkeeigoabGreatDoor
open Go.RowKit
set_option linter.unusedVariables false
set_option linter.unusedSimpArgs false
theorem hasPrefix_eq (l p : Bs) : Lib.hasPrefix l p = p.isPrefixOf l := rfl
theorem ext_rest (t : ByteArray) (p : Nat) : (t.extract p t.size).data.toList = rest t p := by
  unfold rest
  simp
  rw [List.take_of_length_le (by simp)]
theorem pre_one (t : ByteArray) (p : Nat) (c : UInt8) : Lib.hasPrefix (t.extract p t.size).data.toList [c] = (match (rest t p) with | [] => false | b :: _ => c == b) := by
  rw [hasPrefix_eq, ext_rest]
  cases rest t p with
  | nil => rfl
  | cons b r => simp [List.isPrefixOf]
theorem stray_skip {t : ByteArray} {k : Nat} (h : k < t.size) (hc : t[k] ≠ 126) : noStray (rest t k) = noStray (rest t (k + 1)) := by
  rw [rest_cons h, noStray_other _ _ hc]
theorem stray_two {t : ByteArray} {k : Nat} (h : k < t.size) (hc : t[k] = 126) (h1 : k + 1 < t.size) (hd' : t[k + 1] = 48 ∨ t[k + 1] = 49) : noStray (rest t k) = noStray (rest t (k + 1)) := by
  rw [rest_cons h, rest_cons h1, hc, noStray_tilde, noStray_other t[k + 1] _ (by rcases hd' with e | e <;> rw [e] <;> decide)]
  rcases hd' with e | e <;> rw [e] <;> rfl
theorem stray_bad {t : ByteArray} {k : Nat} (h : k < t.size) (hc : t[k] = 126) (hd' : ∀ h1 : k + 1 < t.size, t[k + 1] ≠ 48 ∧ t[k + 1] ≠ 49) : noStray (rest t k) = false := by
  rw [rest_cons h, hc]
  by_cases h1 : k + 1 < t.size
  · rw [rest_cons h1, noStray_tilde]
    have := hd' h1
    simp [this.1, this.2]
  · rw [rest_nil (by omega)]
    simp [noStray]
set_option maxRecDepth 100000 in
set_option maxHeartbeats 1000000 in
theorem stray_any (t : ByteArray) (w : World) (ht : t.size ≤ 8000000) :
    Calls Tryz.prog 50 #[.string t] w fun e w' => e = .returned (.bool (!noStray t.data.toList)) ∧ Below w.heap.size w w' := by
  go_enter Tryz.func50, Tryz.ntmps50
  go_wp2_with fail
  go_loopw [3] (fun i wr => ∃ k : Nat, k ≤ t.size ∧ i = .int .i64 k ∧ noStray t.data.toList = noStray (rest t k) ∧ Below w.heap.size w wr) (fun i _ => t.size - (intOf i).toNat)
  case atStart => exact ⟨0, Nat.zero_le _, rfl, by rw [rest, List.drop_zero], Below.refl _ _⟩
  case round =>
    obtain ⟨k, hk, rfl, hst, hbel⟩ := hrel
    have HB : Hid (Below w.heap.size w wr) := hbel
    have HS : Hid (noStray t.data.toList = noStray (rest t k)) := hst
    clear hbel hst
    by_cases hlt : k < t.size
    · by_cases hc : t[k] = 126
      · have HC : Hid (t[k] = 126) := hc
        have hcb : ((t[k].toNat : Int) == 126) = true := by rw [hc]; rfl
        have hle : (k : Int) + 1 ≤ (t.size : Int) := by omega
        clear hc
        by_cases h48 : ∃ h1 : k + 1 < t.size, t[k + 1] = 48
        · obtain ⟨h1, h48⟩ := h48
          have HP : Hid (Lib.hasPrefix (t.extract (k + 1) t.size).data.toList [48] = true) := by
            show _ = true
            rw [pre_one, rest_cons h1, h48]
            rfl
          have HE : Hid (noStray (rest t k) = noStray (rest t (k + 1))) := stray_two hlt HC.out h1 (Or.inl h48)
          clear h48
          go_wp2_with fail
          refine (Tryz.strings_HasPrefix _ _ _).mono ?_
          rintro e w1 ⟨rfl, rfl⟩
          rw [show (⟨#[48]⟩ : ByteArray).data.toList = [48] from rfl, HP.out]
          go_wp2_with fail
          go_roundw
          case rel => exact ⟨k + 1, by omega, by go_num, by rw [HS.out, HE.out], HB.out⟩
          case measure => simp [intOf]; omega
        · have HP : Hid (Lib.hasPrefix (t.extract (k + 1) t.size).data.toList [48] = false) := by
            show _ = false
            rw [pre_one]
            by_cases h1 : k + 1 < t.size
            · rw [rest_cons h1]
              simp
              exact fun e => h48 ⟨h1, e.symm⟩
            · rw [rest_nil (by omega)]
          by_cases h49 : ∃ h1 : k + 1 < t.size, t[k + 1] = 49
          · obtain ⟨h1, h49⟩ := h49
            have HP2 : Hid (Lib.hasPrefix (t.extract (k + 1) t.size).data.toList [49] = true) := by
              show _ = true
              rw [pre_one, rest_cons h1, h49]
              rfl
            have HE : Hid (noStray (rest t k) = noStray (rest t (k + 1))) := stray_two hlt HC.out h1 (Or.inr h49)
            clear h49 h48
            go_wp2_with fail
            refine (Tryz.strings_HasPrefix _ _ _).mono ?_
            rintro e w1 ⟨rfl, rfl⟩
            rw [show (⟨#[48]⟩ : ByteArray).data.toList = [48] from rfl, HP.out]
            go_wp2_with fail
            refine (Tryz.strings_HasPrefix _ _ _).mono ?_
            rintro e w1 ⟨rfl, rfl⟩
            rw [show (⟨#[49]⟩ : ByteArray).data.toList = [49] from rfl, HP2.out]
            go_wp2_with fail
            go_roundw
            case rel => exact ⟨k + 1, by omega, by go_num, by rw [HS.out, HE.out], HB.out⟩
            case measure => simp [intOf]; omega
          · have HP2 : Hid (Lib.hasPrefix (t.extract (k + 1) t.size).data.toList [49] = false) := by
              show _ = false
              rw [pre_one]
              by_cases h1 : k + 1 < t.size
              · rw [rest_cons h1]
                simp
                exact fun e => h49 ⟨h1, e.symm⟩
              · rw [rest_nil (by omega)]
            have HE : Hid (noStray (rest t k) = false) := stray_bad hlt HC.out (fun h1 => ⟨fun e => h48 ⟨h1, e⟩, fun e => h49 ⟨h1, e⟩⟩)
            clear h49 h48
            go_wp2_with fail
            refine (Tryz.strings_HasPrefix _ _ _).mono ?_
            rintro e w1 ⟨rfl, rfl⟩
            rw [show (⟨#[48]⟩ : ByteArray).data.toList = [48] from rfl, HP.out]
            go_wp2_with fail
            refine (Tryz.strings_HasPrefix _ _ _).mono ?_
            rintro e w1 ⟨rfl, rfl⟩
            rw [show (⟨#[49]⟩ : ByteArray).data.toList = [49] from rfl, HP2.out]
            go_wp2_with fail
            go_ret
            exact ⟨by rw [HS.out, HE.out]; rfl, HB.out⟩
      · have HE : Hid (noStray (rest t k) = noStray (rest t (k + 1))) := stray_skip hlt hc
        have hcb : ((t[k].toNat : Int) == 126) = false := by
          rw [beq_eq_false_iff_ne]
          intro e
          exact hc (UInt8.toNat_inj.1 (by show t[k].toNat = 126; omega))
        clear hc
        go_wp2_with fail
        go_roundw
        case rel => exact ⟨k + 1, by omega, by go_num, by rw [HS.out, HE.out], HB.out⟩
        case measure => simp [intOf]; omega
    · have HE : Hid (noStray (rest t k) = true) := by
        show noStray (rest t k) = true
        rw [rest_nil (by omega)]
        rfl
      go_wp2_with fail
      go_ret
      exact ⟨by rw [HS.out, HE.out]; rfl, HB.out⟩
end Go.Proofs.YtaogilpkeeigoabGreatDoor
