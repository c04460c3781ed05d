/- Contract over this translation: the document's Has at texts. -/
import Derived.Test.YtnjjlnhchfoigaaGrMem
namespace Go.Proofs.Ytnjjlnhchfoigaa
open Go.RowKit
set_option linter.unusedVariables false
set_option linter.unusedSimpArgs false
set_option maxHeartbeats 1000000 in
theorem hasL_any (v : Value) (l : List Bs) (s : Bs) (w : World) (hv : Strs w v l) :
    Calls Try.prog 41 #[v, .string (Ba s)] w fun e w' => e = .returned (.bool (decide (s ∈ l))) ∧ w' = w := by
  obtain ⟨p, c, rfl, hn, hcell⟩ := hv.open
  have HC : Hid (∀ k (hk : k < l.length), ∃ g o, p = some ⟨g, o, none⟩ ∧ l.length ≤ c ∧ w.cell? ⟨g, o + k, none⟩ = some (.string (Ba l[k]))) := fun k hk => by
    obtain ⟨g, o, h1, h2, h3⟩ := hcell k hk
    exact ⟨g, o, h1, h2, h3 w (Below.refl _ _)⟩
  have HT : Hid (∀ k (hk : k < l.length), s = l[k] → decide (s ∈ l) = true) := fun k hk h => by
    have : s ∈ l := by rw [h]; exact List.getElem_mem hk
    simp [this]
  have HF : Hid ((∀ k (hk : k < l.length), s ≠ l[k]) → decide (s ∈ l) = false) := fun h => by
    have : s ∉ l := fun hm => by
      obtain ⟨k, hk, he⟩ := List.getElem_of_mem hm
      exact h k hk he.symm
    simp [this]
  clear hcell hv
  generalize decide (s ∈ l) = r at *
  unfold maxLen at hn
  go_enter Try.func41, Try.ntmps41
  go_wp2_with fail
  go_loop [9] (fun i => ∃ k : Nat, k ≤ l.length ∧ i = .int .i64 k ∧ ∀ j (hj : j < l.length), j < k → s ≠ l[j]) (fun i => l.length - (intOf i).toNat)
  case atStart => exact ⟨0, Nat.zero_le _, rfl, fun j _ h => absurd h (Nat.not_lt_zero _)⟩
  case round =>
    obtain ⟨k, hk, rfl, hall⟩ := hrel
    have HA : Hid (∀ j (hj : j < l.length), j < k → s ≠ l[j]) := hall
    clear hall
    by_cases hlt : k < l.length
    · obtain ⟨g, o, rfl, hlc, hc⟩ := HC.out k hlt
      have hb := ba_beq s l[k]
      by_cases hx : s = l[k]
      · have HX : Hid (r = true) := HT.out k hlt hx
        rw [decide_eq_true hx] at hb
        clear hx HA HF HT
        generalize Ba l[k] = y at *
        generalize Ba s = z at *
        go_wp2_with fail
        go_ret
        exact ⟨by rw [HX.out]; rfl, rfl⟩
      · have HX : Hid (s ≠ l[k]) := hx
        rw [decide_eq_false hx] at hb
        clear hx HF HT
        generalize Ba l[k] = y at *
        generalize Ba s = z at *
        go_wp2_with fail
        go_round
        case rel => exact ⟨k + 1, by omega, by go_num, (fun j hj h => by
          rcases Nat.lt_succ_iff_lt_or_eq.1 h with h | h
          · exact HA.out j hj h
          · subst h; exact HX.out)⟩
        case measure => simp [intOf]; omega
    · have HX : Hid (r = false) := HF.out (fun j hj => HA.out j hj (by omega))
      go_wp2_with fail
      go_ret
      exact ⟨by rw [HX.out]; rfl, rfl⟩
end Go.Proofs.Ytnjjlnhchfoigaa
