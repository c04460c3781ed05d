/- Plain facts: numbers as they are written, read by strconv.Atoi and digit by digit. -/
import Derived.Test.YtmbpjbghhimedaaGreatDoorSlBase
import Derived.Lib.ItoaNum
import Derived.Lib.ItoaLen
import Derived.Lib.AtoiAllCases
namespace Go.Proofs.YtmbpjbghhimedaaGreatDoor
set_option linter.unusedVariables false
set_option linter.unusedSimpArgs false
/-- a number of digits that stand behind others -/
def decP (a : Nat) : Bs → Nat
  | [] => a
  | c :: r => decP (10 * a + (c.toNat - 48)) r
theorem decP_append : ∀ (l m : Bs) (a : Nat), decP a (l ++ m) = decP (decP a l) m
  | [], _, _ => rfl
  | c :: l, m, a => decP_append l m _
/-- a sign of a number -/
def isDig (c : UInt8) : Prop := 48 ≤ c.toNat ∧ c.toNat ≤ 57
theorem dig_of (d : Nat) (h : d < 10) : isDig (UInt8.ofNat (48 + d)) ∧ (UInt8.ofNat (48 + d)).toNat - 48 = d := by
  have e : (UInt8.ofNat (48 + d)).toNat = 48 + d := by
    rw [UInt8.toNat_ofNat']
    omega
  unfold isDig
  rw [e]
  omega
theorem dec_small {u : Nat} (h : u < 10) : Lib.decDigits u = [UInt8.ofNat (48 + u)] := by rw [Lib.decDigits, dif_pos h]
theorem dec_big {u : Nat} (h : ¬ u < 10) : Lib.decDigits u = Lib.decDigits (u / 10) ++ [UInt8.ofNat (48 + u % 10)] := by rw [Lib.decDigits, dif_neg h]
theorem dec_val (u : Nat) : decP 0 (Lib.decDigits u) = u := by
  induction u using Nat.strongRecOn with
  | _ u ih =>
    by_cases h : u < 10
    · rw [dec_small h]
      show 10 * 0 + _ = u
      have := (dig_of u h).2
      omega
    · rw [dec_big h, decP_append, ih (u / 10) (by omega)]
      show 10 * (u / 10) + _ = u
      have := (dig_of (u % 10) (by omega)).2
      omega
theorem dec_digs (u : Nat) : ∀ c ∈ Lib.decDigits u, isDig c := by
  induction u using Nat.strongRecOn with
  | _ u ih =>
    by_cases h : u < 10
    · rw [dec_small h]
      intro c hc
      rw [List.mem_singleton.1 hc]
      exact (dig_of u h).1
    · rw [dec_big h]
      intro c hc
      rcases List.mem_append.1 hc with hc | hc
      · exact ih (u / 10) (by omega) c hc
      · rw [List.mem_singleton.1 hc]
        exact (dig_of (u % 10) (by omega)).1
theorem dec_ne (u : Nat) : Lib.decDigits u ≠ [] := by
  by_cases h : u < 10
  · rw [dec_small h]; simp
  · rw [dec_big h]; simp
theorem decP_le : ∀ (l : Bs) (a : Nat), a ≤ decP a l
  | [], a => Nat.le_refl a
  | c :: r, a => Nat.le_trans (by omega) (decP_le r (10 * a + (c.toNat - 48)))
theorem parse_dec : ∀ (l : Bs) (a : Nat), (∀ c ∈ l, isDig c) → decP a l < 18446744073709551616 → Lib.parseUint10 a l = .ok (decP a l)
  | [], a, _, _ => rfl
  | c :: r, a, hd, hl => by
    have hc := hd c (by simp)
    have ih := parse_dec r (10 * a + (c.toNat - 48)) (fun x hx => hd x (by simp [hx])) hl
    have hle := decP_le r (10 * a + (c.toNat - 48))
    have h2 : decP a (c :: r) = decP (10 * a + (c.toNat - 48)) r := rfl
    unfold isDig at hc
    rw [Lib.parseUint10, if_pos hc, if_neg (by omega), if_neg (by omega), show a * 10 = 10 * a by omega, ih, h2]
theorem parse_ok : ∀ (l : Bs) (a u : Nat), Lib.parseUint10 a l = .ok u → (∀ c ∈ l, isDig c) ∧ u = decP a l
  | [], a, u, h => by
    simp only [Lib.parseUint10] at h
    injection h with h
    exact ⟨fun c hc => absurd hc (by simp), h.symm⟩
  | c :: r, a, u, h => by
    simp only [Lib.parseUint10] at h
    split at h
    · rename_i hc
      split at h
      · cases h
      · split at h
        · cases h
        · rw [show a * 10 = 10 * a by omega] at h
          obtain ⟨h1, h2⟩ := parse_ok r _ u h
          refine ⟨fun x hx => ?_, h2⟩
          rcases List.mem_cons.1 hx with rfl | hx
          · exact hc
          · exact h1 x hx
    · cases h
theorem dec_head (u : Nat) : ∃ c r, Lib.decDigits u = c :: r ∧ isDig c := by
  cases h : Lib.decDigits u with
  | nil => exact absurd h (dec_ne u)
  | cons c r => exact ⟨c, r, rfl, dec_digs u c (by rw [h]; simp)⟩
/-- what is written is read as it was -/
theorem atoi_dec (u : Nat) (hu : u < 9223372036854775808) : Lib.atoiAll (Lib.decDigits u) = .ok (u : Int) := by
  obtain ⟨c, r, h, hc⟩ := dec_head u
  have hv := dec_val u
  have hp := parse_dec (Lib.decDigits u) 0 (dec_digs u) (by rw [hv]; omega)
  rw [hv] at hp
  unfold isDig at hc
  rw [h] at hp ⊢
  rw [Lib.atoiAll_plain c r (by omega) (by omega), Lib.parseMag, if_neg (by simp), hp, Lib.signless, if_neg (by omega)]
theorem itoa_nat (u : Nat) : Lib.itoa (u : Int) = Lib.decDigits u := by
  rw [Lib.itoa, if_neg (by omega)]
  rfl
theorem dec_len (u : Nat) (h : u ≤ 1099511627776) : (Lib.decDigits u).length ≤ 13 := by
  rw [Lib.decDigits_length]
  have : ∀ k u : Nat, u < 10 ^ (k + 1) → Lib.nDigits u ≤ k + 1 := by
    intro k
    induction k with
    | zero => intro u hu; rw [Lib.nDigits_small (by omega)]; exact Nat.le_refl _
    | succ k ih =>
      intro u hu
      by_cases h : u < 10
      · rw [Lib.nDigits_small h]; omega
      · rw [Lib.nDigits_big h]
        have := ih (u / 10) (by rw [Nat.pow_succ] at hu; omega)
        omega
  exact this 12 u (by omega)
/-- no nought stands ahead -/
theorem dec_lead : ∀ (k : Nat) (l : Bs), l.length ≤ k → l ≠ [] → (∀ c ∈ l, isDig c) → (l.head? = some 48 → l = [48]) → Lib.decDigits (decP 0 l) = l
  | 0, l, hk, hn, _, _ => absurd (List.length_eq_zero_iff.1 (Nat.le_zero.1 hk)) hn
  | k + 1, l, hk, hn, hd, h0 => by
    have hl := List.dropLast_concat_getLast hn
    have hlast := hd (l.getLast hn) (List.getLast_mem hn)
    by_cases h1 : l.dropLast = []
    · rw [h1, List.nil_append] at hl
      rw [← hl]
      show Lib.decDigits (10 * 0 + _) = _
      have hb := hlast
      unfold isDig at hb
      rw [dec_small (by omega)]
      congr 1
      apply UInt8.toNat_inj.1
      rw [UInt8.toNat_ofNat']
      omega
    · have hdd : ∀ c ∈ l.dropLast, isDig c := fun c hc => hd c (List.dropLast_subset l hc)
      have hhead : l.dropLast.head? = l.head? := by
        cases l with
        | nil => rfl
        | cons a r =>
          cases r with
          | nil => exact absurd rfl h1
          | cons b r => rfl
      have hne48 : l.head? ≠ some 48 := fun e => by
        have := h0 e
        rw [this] at h1
        exact h1 rfl
      have ih := dec_lead k l.dropLast (by rw [List.length_dropLast]; omega) h1 hdd (fun e => absurd (hhead ▸ e) hne48)
      have hpos : 0 < decP 0 l.dropLast := by
        cases hq : l.dropLast with
        | nil => exact absurd hq h1
        | cons a r =>
          have ha := hdd a (by rw [hq]; simp)
          have hne : a ≠ 48 := fun e => hne48 (by rw [← hhead, hq, e]; rfl)
          have hle := decP_le r (10 * 0 + (a.toNat - 48))
          have : a.toNat ≠ 48 := fun e => hne (UInt8.toNat_inj.1 e)
          unfold isDig at ha
          show 0 < decP (10 * 0 + (a.toNat - 48)) r
          omega
      have hv : decP 0 l = 10 * decP 0 l.dropLast + ((l.getLast hn).toNat - 48) := by
        conv => lhs; rw [← hl, decP_append]
        rfl
      unfold isDig at hlast
      rw [hv, dec_big (by omega)]
      conv => rhs; rw [← hl]
      rw [show (10 * decP 0 l.dropLast + ((l.getLast hn).toNat - 48)) / 10 = decP 0 l.dropLast by omega, ih]
      congr 2
      apply UInt8.toNat_inj.1
      rw [UInt8.toNat_ofNat']
      omega
/-- a time, as it is told: its number -/
def timeP (l : Bs) : Option Nat := match Lib.atoiAll l with
  | .ok v => if 0 ≤ v ∧ v ≤ 1099511627776 ∧ Lib.itoa v = l then some v.toNat else none
  | _ => none
theorem time_dec (u : Nat) (h : u ≤ 1099511627776) : timeP (Lib.decDigits u) = some u := by
  rw [timeP, atoi_dec u (by omega)]
  simp only [itoa_nat]
  rw [if_pos (by simp; omega)]
  rfl
theorem time_some {l : Bs} {u : Nat} (h : timeP l = some u) : u ≤ 1099511627776 ∧ l = Lib.decDigits u := by
  unfold timeP at h
  split at h
  · split at h
    · rename_i v _ hc
      obtain ⟨h0, h1, h2⟩ := hc
      injection h with h
      subst h
      obtain ⟨n, rfl⟩ : ∃ n : Nat, v = n := ⟨v.toNat, by omega⟩
      refine ⟨by omega, ?_⟩
      rw [← h2, itoa_nat]
      rfl
    · cases h
  · cases h
theorem time_none {l : Bs} (h : timeP l = none) (u : Nat) (hu : u ≤ 1099511627776) : l ≠ Lib.decDigits u := fun e => by
  rw [e, time_dec u hu] at h
  cases h
end Go.Proofs.YtmbpjbghhimedaaGreatDoor
