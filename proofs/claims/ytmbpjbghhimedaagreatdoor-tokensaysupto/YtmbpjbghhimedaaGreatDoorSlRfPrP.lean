/- The document's primes, plain, and what their roots are. -/
import Derived.Test.YtmbpjbghhimedaaGreatDoorSlRfRoot
import Derived.Test.YtmbpjbghhimedaaGreatDoorSlSum
namespace Go.Proofs.YtmbpjbghhimedaaGreatDoor
set_option linter.unusedVariables false
set_option linter.unusedSimpArgs false
def isP (l : List Nat) (p : Nat) : Bool := l.all fun q => decide (0 < p % q)
/-- the primes below a number -/
def prP : Nat → List Nat
  | 0 => []
  | p + 1 => if 2 ≤ p ∧ isP (prP p) p = true then prP p ++ [p] else prP p
theorem pr_two : ∀ p, ∀ q ∈ prP p, 2 ≤ q ∧ q < p
  | 0, q, h => by simp [prP] at h
  | p + 1, q, h => by
    unfold prP at h
    split at h
    · rename_i hc
      rcases List.mem_append.1 h with h | h
      · have := pr_two p q h
        omega
      · simp at h
        omega
    · have := pr_two p q h
      omega
section
set_option maxRecDepth 1000000
theorem pr_all : prP 312 = [2, 3, 5, 7, 11, 13, 17, 19, 23, 29, 31, 37, 41, 43, 47, 53, 59, 61, 67, 71, 73, 79, 83, 89, 97, 101, 103, 107, 109, 113, 127, 131, 137, 139, 149, 151, 157, 163, 167, 173, 179, 181, 191, 193, 197, 199, 211, 223, 227, 229, 233, 239, 241, 251, 257, 263, 269, 271, 277, 281, 283, 293, 307, 311] := by decide +kernel
theorem pr_few : ∀ p : Fin 313, (prP p.val).length < 64 → p.val < 312 := by decide +kernel
end
end Go.Proofs.YtmbpjbghhimedaaGreatDoor
