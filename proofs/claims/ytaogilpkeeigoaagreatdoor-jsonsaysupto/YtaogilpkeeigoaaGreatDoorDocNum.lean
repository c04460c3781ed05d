/- Plain facts on numbers: digits that are read, and what they say. -/
import Derived.Test.YtaogilpkeeigoaaGreatDoorDoc
import Derived.Lib.ParseIntBCases
namespace Go.Proofs.YtaogilpkeeigoaaGreatDoor
set_option linter.unusedVariables false
set_option linter.unusedSimpArgs false
theorem numVal_eq (below : Bool) (ds : Bs) : numVal below ds = if below then -(decV ds : Int) else (decV ds : Int) := rfl
theorem digit_iff (c : UInt8) : isDigit c = true ↔ 48 ≤ c.toNat ∧ c.toNat ≤ 57 := by
  unfold isDigit
  simp only [Bool.and_eq_true, decide_eq_true_eq, UInt8.le_iff_toNat_le]
  exact Iff.rfl
theorem foldl_lt : ∀ (ds : Bs) (a k : Nat), (∀ c ∈ ds, isDigit c = true) → a < 10 ^ k → ds.foldl (fun n c => 10 * n + (c.toNat - 48)) a < 10 ^ (k + ds.length)
  | [], a, k, _, ha => by simpa using ha
  | c :: ds, a, k, h, ha => by
    have hc := (digit_iff c).1 (h c (by simp))
    have := foldl_lt ds (10 * a + (c.toNat - 48)) (k + 1) (fun d hd => h d (by simp [hd])) (by rw [Nat.pow_succ]; omega)
    rw [List.foldl_cons, List.length_cons]
    rw [show k + (ds.length + 1) = k + 1 + ds.length by omega]
    exact this
theorem decV_lt (ds : Bs) (h : ∀ c ∈ ds, isDigit c = true) : decV ds < 10 ^ ds.length := by
  have := foldl_lt ds 0 0 h (by simp)
  simpa [decV] using this
theorem parseM_ok : ∀ (ds : Bs) (a k M : Nat), (∀ c ∈ ds, isDigit c = true) → a < 10 ^ k → k + ds.length ≤ 18 → 10 ^ 18 ≤ M → Lib.parseUintM M a ds = .ok (ds.foldl (fun n c => 10 * n + (c.toNat - 48)) a)
  | [], a, k, M, _, ha, hk, hM => by simp [Lib.parseUintM]
  | c :: ds, a, k, M, h, ha, hk, hM => by
    have hc := (digit_iff c).1 (h c (by simp))
    have hlt : 10 * a + (c.toNat - 48) < 10 ^ (k + 1) := by rw [Nat.pow_succ]; omega
    have hle : 10 ^ (k + 1) ≤ 10 ^ 18 := Nat.pow_le_pow_right (by decide) (by simp at hk; omega)
    have ih := parseM_ok ds (10 * a + (c.toNat - 48)) (k + 1) M (fun d hd => h d (by simp [hd])) hlt (by simp at hk ⊢; omega) hM
    unfold Lib.parseUintM
    have h10 : 10 ^ k ≤ 10 ^ 17 := Nat.pow_le_pow_right (by decide) (by simp at hk; omega)
    rw [if_pos hc, if_neg (by omega), if_neg (by omega), Nat.mul_comm a 10, ih]
    rfl
theorem parse_ok (below : Bool) (ds : Bs) (h : ∀ c ∈ ds, isDigit c = true) (h0 : ds ≠ []) (h18 : ds.length ≤ 18) :
    Lib.parseIntB 64 ((if below then [45] else []) ++ ds) = .ok (numVal below ds) := by
  have hu : Lib.parseUintB 64 ds = .ok (decV ds) := by
    unfold Lib.parseUintB
    rw [if_neg h0]
    exact parseM_ok ds 0 0 _ h (by simp) (by omega) (by decide)
  have hlt := decV_lt ds h
  have hle : 10 ^ ds.length ≤ 10 ^ 18 := Nat.pow_le_pow_right (by decide) h18
  have hb : decV ds < 2 ^ 63 := by omega
  cases below with
  | true =>
    show Lib.parseIntB 64 (45 :: ds) = _
    rw [Lib.parseIntB_minus, hu]
    show (if 2 ^ 63 < decV ds then _ else _) = _
    rw [if_neg (by omega)]
    rfl
  | false =>
    show Lib.parseIntB 64 ds = _
    cases ds with
    | nil => exact absurd rfl h0
    | cons c r =>
      have hc := (digit_iff c).1 (h c (by simp))
      rw [Lib.parseIntB_plain 64 c r (by omega) (by omega), hu]
      show (if 2 ^ 63 ≤ decV (c :: r) then _ else _) = _
      rw [if_neg (by omega)]
      rfl
end Go.Proofs.YtaogilpkeeigoaaGreatDoor
