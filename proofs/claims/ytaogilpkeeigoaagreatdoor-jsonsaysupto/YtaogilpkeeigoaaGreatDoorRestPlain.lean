/- What is left of a text behind a place: plain facts. -/
import Derived.Test.YtaogilpkeeigoaaGreatDoorDoc
namespace Go.Proofs.YtaogilpkeeigoaaGreatDoor
set_option linter.unusedVariables false
set_option linter.unusedSimpArgs false
/-- what is left of a text -/
def rest (t : ByteArray) (p : Nat) : Bs := t.data.toList.drop p
theorem rest_cons {t : ByteArray} {p : Nat} (h : p < t.size) : rest t p = t[p] :: rest t (p + 1) := by
  unfold rest
  have h' : p < t.data.toList.length := by simpa using h
  rw [List.drop_eq_getElem_cons h']
  rfl
theorem rest_nil {t : ByteArray} {p : Nat} (h : t.size ≤ p) : rest t p = [] := by
  unfold rest
  apply List.drop_of_length_le
  simpa using h
theorem rest_len (t : ByteArray) (p : Nat) : (rest t p).length = t.size - p := by simp [rest]
theorem hd_lt {t : ByteArray} {p : Nat} (h : p < t.size) : hd (rest t p) = t[p] := by rw [rest_cons h]; rfl
theorem hd_end {t : ByteArray} {p : Nat} (h : t.size ≤ p) : hd (rest t p) = 0 := by rw [rest_nil h]; rfl
theorem rest_tail (t : ByteArray) (p : Nat) : (rest t p).tail = rest t (p + 1) := by simp [rest, List.tail_drop]
theorem lt_of_hd {t : ByteArray} {p : Nat} (h : hd (rest t p) ≠ 0) : p < t.size := by
  rcases Nat.lt_or_ge p t.size with h' | h'
  · exact h'
  · exact absurd (hd_end h') h
theorem rest_inj {t : ByteArray} {p q : Nat} (hp : p ≤ t.size) (hq : q ≤ t.size) (h : rest t p = rest t q) : p = q := by
  have := congrArg List.length h
  rw [rest_len, rest_len] at this
  omega
end Go.Proofs.YtaogilpkeeigoaaGreatDoor
