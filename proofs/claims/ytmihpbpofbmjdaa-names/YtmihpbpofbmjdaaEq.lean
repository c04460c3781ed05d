/- Contracts of the reference's Eq on lists of integers, and of the law Names. -/
import Derived.Test.YtmihpbpofbmjdaaRows
import Derived.WalkKit
import Derived.WalkSpells
namespace Go.Proofs.Ytmihpbpofbmjdaa
open Go.RowKit

set_option maxHeartbeats 400000 in
theorem eq_same (b1 b2 n : Nat) (zs : List Int) (w : World) (hn : n ≤ 1000)
    (h1 : ∀ k, k < n → w.cell? ⟨b1, k, none⟩ = some (.int .i64 (zs.getD k 0)))
    (h2 : ∀ k, k < n → w.cell? ⟨b2, k, none⟩ = some (.int .i64 (zs.getD k 0))) :
    Calls Try.prog 5 #[.slice (some ⟨b1, 0, none⟩) n n, .slice (some ⟨b2, 0, none⟩) n n] w fun e w' => e = .returned (.bool true) ∧ w' = w := by
  go_enter Try.func5, Try.ntmps5
  go_wp2
  go_loop [14] (fun i => ∃ k : Nat, k ≤ n ∧ i = .int .i64 k) (fun i => n - (intOf i).toNat)
  case atStart => exact ⟨0, Nat.zero_le _, rfl⟩
  case round =>
    obtain ⟨k, hk, rfl⟩ := hrel
    by_cases hlt : k < n
    · have c1 := h1 k hlt
      have c2 := h2 k hlt
      clear h1 h2
      go_wp2
      go_round
      case rel => exact ⟨k + 1, by omega, by go_num⟩
      case measure => simp [intOf]; omega
    · go_wp2
      go_ret
      exact ⟨rfl, rfl⟩
end Go.Proofs.Ytmihpbpofbmjdaa
